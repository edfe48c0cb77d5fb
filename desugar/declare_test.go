package desugar_test

import (
	"testing"

	"thunkmill/api"
)

// P13.1: a let of each kind of declarations.
func TestLets(t *testing.T) {
	checkTexts(t, [][2]string{
		{"let x = 1 in x", "(let x = 1 in x)"}, {"let x = x in x", "(let x = x in x)"}, {"let { } in 1", "1"}, {"let x = 1 in 2", "(let x = 1 in 2)"},
		{"let f x = x in f", `(let f = (\ a -> (let no = failure in (let x = a in x))) in f)`},
		{"let { f 1 = 2 ; f x = f 1 } in f 3", `(let f = (\ a -> (let no = (let no = failure in (let x = a in (f 1))) in (case a of 1 -> 2; _ -> no))) in (f 3))`},
		{"let { f 1 y = y ; f x 2 = x ; f _ _ = 3 } in f", `(let f = (\ a b -> (let no = (let no = (let no = failure in 3) in (let x = a in (case b of 2 -> x; _ -> no))) in (case a of 1 -> (let y = b in y); _ -> no))) in f)`},
		{"let x + y = x in 1 + 2", `(let + = (\ a b -> (let no = failure in (let x = a in (let y = b in x)))) in (+ 1 2))`},
		{"let f x | x = 1 | g = 2 in f", `(let f = (\ a -> (let no = failure in (let x = a in (case x of True -> 1; False -> (case g of True -> 2; False -> no))))) in f)`},
		{"let { f x | x = 1 ; f y = 2 } in f", `(let f = (\ a -> (let no = (let no = failure in (let y = a in 2)) in (let x = a in (case x of True -> 1; False -> no)))) in f)`},
		{"let f x = g where g = x in f", `(let f = (\ a -> (let no = failure in (let x = a in (let g = x in g)))) in f)`},
		{"let f x | g = 1 where { g = h ; h = x } in f", `(let f = (\ a -> (let no = failure in (let x = a in (let h = x in (let g = h in (case g of True -> 1; False -> no)))))) in f)`},
		{"let f x = x where { } in f", `(let f = (\ a -> (let no = failure in (let x = a in x))) in f)`},
	})
}

// P13.1: a name's right side has the failure in the place of no.
func TestNames(t *testing.T) {
	checkTexts(t, [][2]string{
		{"let x | a = 1 in x", "(let x = (case a of True -> 1; False -> failure) in x)"}, {"let x | a = 1 | b = 2 in x", "(let x = (case a of True -> 1; False -> (case b of True -> 2; False -> failure)) in x)"},
		{"let x | y = 1 where y = x in x", "(let x = (let y = x in (case y of True -> 1; False -> failure)) in x)"}, {"let x = y where { y = 1 } in y", "(let x = (let y = 1 in y) in y)"},
		{`let x | \ y -> y = 1 in x`, `(let x = (case (\ a -> (let no = failure in (let y = a in y))) of True -> 1; False -> failure) in x)`},
		{"let x | a = case 1 of { y | b -> 2 } in x", "(let x = (case a of True -> (let v = 1 in (let no = failure in (let y = v in (case b of True -> 2; False -> no)))); False -> failure) in x)"},
	})
}

// P13.1: patterns with no, one and several names.
func TestPatternBindings(t *testing.T) {
	checkTexts(t, [][2]string{
		{"let _ = 1 in 2", "(let v = 1 in 2)"}, {"let 1 = x in 2", "(let v = x in 2)"}, {"let (_, []) | a = x in 2", "(let v = (case a of True -> x; False -> failure) in 2)"},
		{"let B x = 1 in x", "(let v = 1 in (let x = (case v of B a -> (let y = a in y); _ -> failure) in x))"},
		{"let x@1 = f in x", "(let v = f in (let x = (let y = v in (case v of 1 -> y; _ -> failure)) in x))"},
		{"let ~x = f in x", "(let v = f in (let x = (let y = (let z = v in z) in y) in x))"},
		{"let (x, y) = f in 1", "(let v = f in (let x = (case v of Tup2 a b -> (let p = a in (let q = b in p)); _ -> failure) in (let y = (case v of Tup2 a b -> (let p = a in (let q = b in q)); _ -> failure) in 1)))"},
		{"let (x, y) = (1, x) in y", "(let v = (Tup2 1 x); x = (case v of Tup2 a b -> (let p = a in (let q = b in p)); _ -> failure) in (let y = (case v of Tup2 a b -> (let p = a in (let q = b in q)); _ -> failure) in y))"},
		{"let (x, y) = (y, x) in y", "(let v = (Tup2 y x); x = (case v of Tup2 a b -> (let p = a in (let q = b in p)); _ -> failure); y = (case v of Tup2 a b -> (let p = a in (let q = b in q)); _ -> failure) in y)"},
		{"let x : ~(y : _) = f in y", "(let v = f in (let x = (case v of Cons a b -> (let p = a in p); _ -> failure) in (let y = (case v of Cons a b -> (let p = a in (let q = (case b of Cons c d -> (let r = c in r); _ -> failure) in q)); _ -> failure) in y)))"},
		{"let x@(y, _) | a = f in x", "(let v = (case a of True -> f; False -> failure) in (let x = (let p = v in (case v of Tup2 a b -> (let q = a in p); _ -> failure)) in (let y = (let p = v in (case v of Tup2 a b -> (let q = a in q); _ -> failure)) in x)))"},
		{"let { (x, _) = z ; z = y ; B y = 1 } in x", "(let v = 1 in (let y = (case v of B a -> (let b = a in b); _ -> failure) in (let z = y in (let w = z in (let x = (case w of Tup2 a b -> (let p = a in p); _ -> failure) in x)))))"},
	})
}

// P13.1: bindings stand in groups, each behind those that it leans on, by their places.
func TestGroups(t *testing.T) {
	checkTexts(t, [][2]string{
		{"let { a = 1 ; b = 2 ; c = 3 } in d", "(let a = 1 in (let b = 2 in (let c = 3 in d)))"},
		{"let { a = b ; b = c ; c = 1 } in a", "(let c = 1 in (let b = c in (let a = b in a)))"},
		{"let { a = b ; b = a } in a", "(let a = b; b = a in a)"}, {"let { b = a ; a = b } in a", "(let b = a; a = b in a)"},
		{"let { a = c ; b = 1 ; c = a ; d = b } in d", "(let a = c; c = a in (let b = 1 in (let d = b in d)))"},
		{"let { a = b ; b = a ; c = c } in 1", "(let a = b; b = a in (let c = c in 1))"}, {"let { a = c ; b = 1 ; c = 2 } in 1", "(let b = 1 in (let c = 2 in (let a = c in 1)))"},
		{"let { a = (d, b) ; b = c ; c = a ; d = 1 } in 1", "(let d = 1 in (let a = (Tup2 d b); b = c; c = a in 1))"},
		{"let { f x = g x ; g x = h ; h = f 1 ; i = f } in i", `(let f = (\ a -> (let no = failure in (let x = a in (g x)))); g = (\ a -> (let no = failure in (let x = a in h))); h = (f 1) in (let i = f in i))`},
		{`let { a = \ b -> b ; b = a } in 1`, `(let a = (\ u -> (let no = failure in (let b = u in b))) in (let b = a in 1))`}, {"let { a = let b = 1 in b ; b = a } in 1", "(let a = (let b = 1 in b) in (let b = a in 1))"},
		{"let { a = let c = b in c ; b = 1 ; c = a } in 1", "(let b = 1 in (let a = (let c = b in c) in (let c = a in 1)))"}, {"let { a = (+ b) ; b = 1 } in 1", `(let b = 1 in (let a = (let v = b in (\ x -> (+ x v))) in 1))`},
		{"let { a = (1 `b`) ; b = 1 } in 1", "(let b = 1 in (let a = (b 1) in 1))"}, {"let { a = (`b` 1) ; b = 1 } in 1", `(let b = 1 in (let a = (let v = 1 in (\ x -> (b x v))) in 1))`}, {"let { a = x where { x = b } ; b = 1 } in 1", "(let b = 1 in (let a = (let x = b in x) in 1))"},
		{"let { a | b = 1 ; b = 2 } in 1", "(let b = 2 in (let a = (case b of True -> 1; False -> failure) in 1))"}, {"let { a = do { b ; 1 } ; b = 2 } in 1", `(let b = 2 in (let a = (#bind b (\ x -> 1)) in 1))`}, {"let { a = [ 1 | b ] ; b = 2 } in 1", "(let b = 2 in (let a = (case b of True -> (Cons 1 (Nil)); False -> (Nil)) in 1))"},
		{"let { a = add ; add = 1 ; b = ord ; c = b } in 1", `(let add = 1 in (let a = add in (let b = (\ x -> (#ord x)) in (let c = b in 1))))`},
		{"let { f x = y ; y = 1 ; g y = f } in 1", `(let y = 1 in (let f = (\ a -> (let no = failure in (let x = a in y))) in (let g = (\ a -> (let no = failure in (let z = a in f))) in 1)))`},
		{"let { a = let { c = a ; d = b } in 1 ; b = 2 } in let { c = 3 ; a = c } in a", "(let b = 2 in (let a = (let c = a in (let d = b in 1)) in (let c = 3 in (let a = c in a))))"},
	})
}

// P13.1: what a function's equations define is one binding, if they stand side by side; another one's may stand behind.
func TestFunctionsSideBySide(t *testing.T) {
	checkTexts(t, [][2]string{
		{"let { f 1 = 2 ; g 1 = 3 ; g 2 = 4 ; x = 5 ; h 1 = 6 } in 7", `(let f = (\ a -> (let no = failure in (case a of 1 -> 2; _ -> no))) in (let g = (\ a -> (let no = (let no = failure in (case a of 2 -> 4; _ -> no)) in (case a of 1 -> 3; _ -> no))) in (let x = 5 in (let h = (\ a -> (let no = failure in (case a of 1 -> 6; _ -> no))) in 7))))`},
	})
}

// P13.1: fresh names meet no name of the program, neither free ones nor bound ones, however it names its own.
func TestFreshNames(t *testing.T) {
	for _, name := range []string{"v", "no", "x", "us", "ws", "h", "a", "m1", "d1", "v1", "ok", "fresh"} {
		it := named(api.NdVar, name)
		guarded := node(api.NdRhs, node(api.NdGuard, it, it))
		for _, n := range []api.Node{
			named(api.NdRight, name, it),
			node(api.NdApp, named(api.NdCon, "C"), it),
			node(api.NdCase, it, node(api.NdAlt, anything(), guarded)),
			node(api.NdLam, node(api.NdPTuple, named(api.NdPVar, name), node(api.NdPLazy, named(api.NdPVar, "y"))), node(api.NdTuple, it, named(api.NdVar, "y"), named(api.NdRight, "+", it))),
			node(api.NdLet, node(api.NdWhere, node(api.NdBind, node(api.NdPTuple, named(api.NdPVar, name), anything()), guarded)), it),
			node(api.NdDo, node(api.NdStmt, it), node(api.NdGen, named(api.NdPVar, "y"), it), node(api.NdStmt, it)),
			node(api.NdComp, it, node(api.NdGen, named(api.NdPVar, "y"), it), node(api.NdStmt, it), node(api.NdGen, named(api.NdPVar, name), it)),
		} {
			checkExpr(t, n, (&reference{cons: cons()}).expr(n, nil))
		}
	}
	for _, name := range []string{"%", "%%", "<>"} {
		eqn := named(api.NdEqn, name, anything(), node(api.NdRhs, named(api.NdVar, name)))
		n := node(api.NdLet, node(api.NdWhere, eqn), node(api.NdTuple, named(api.NdLeft, name, one()), named(api.NdRight, name, one())))
		checkExpr(t, n, (&reference{cons: cons()}).expr(n, nil))
	}
}
