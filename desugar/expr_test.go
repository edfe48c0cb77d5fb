package desugar_test

import (
	"testing"

	"thunkmill/api"
)

// P13.1: the chapter's examples.
func TestExamples(t *testing.T) {
	checkTexts(t, [][2]string{
		{`\ x -> x`, `(\ a -> (let no = failure in (let x = a in x)))`},
		{"if True then 1 else 2", "(case (True) of True -> 1; False -> 2)"},
		{"(1 +)", "(+ 1)"},
		{"(+ 1)", `(let v = 1 in (\ x -> (+ x v)))`},
		{"add 1", `((\ a b -> (#add a b)) 1)`},
		{"add 1 2", "(#add 1 2)"},
		{"[ x | x <- l ]", `(let h = (\ us -> (case us of Nil -> (Nil); Cons u ws -> (let no = (let no = failure in (h ws)) in (let x = u in (Cons x (h ws)))))) in (h l))`},
	})
}

// P13.1: names, constructors, literals.
func TestLeaves(t *testing.T) {
	checkTexts(t, [][2]string{
		{"x", "x"}, {"(+)", "+"}, {"main", "main"}, {"addd", "addd"},
		{"add", `(\ a b -> (#add a b))`}, {"ord", `(\ a -> (#ord a))`}, {"getc", "(#getc)"}, {"eof", "(#eof)"}, {"bind", `(\ a b -> (#bind a b))`}, {"seq", `(\ a b -> (#seq a b))`},
		{"A", "(A)"}, {"B", `(\ a -> (B a))`}, {"C", `(\ a b c -> (C a b c))`}, {"Tup2", `(\ a b -> (Tup2 a b))`},
		{"True", "(True)"}, {"Nil", "(Nil)"}, {"Cons", `(\ a b -> (Cons a b))`}, {"(:)", `(\ a b -> (Cons a b))`}, {"[]", "(Nil)"}, {"()", "(Unit)"}, {"Unit", "(Unit)"},
		{"0", "0"}, {"9223372036854775807", "9223372036854775807"}, {"'a'", "'97'"}, {`'\0'`, "'0'"},
		{`""`, "(Nil)"}, {`"b"`, "(Cons '98' (Nil))"}, {`"ba\n"`, "(Cons '98' (Cons '97' (Cons '10' (Nil))))"},
		{"(x)", "x"}, {"((1))", "1"}, {"((B))", `(\ a -> (B a))`}, {"(((add)))", `(\ a b -> (#add a b))`},
	})
	checkExpr(t, named(api.NdCon, ":+"), lamOf(conOf(":+", variable("a"), variable("b")), "a", "b"))
	checkExpr(t, named(api.NdString, "\x00\xff"), conOf("Cons", api.Expr{Kind: api.ExChar}, conOf("Cons", api.Expr{Kind: api.ExChar, Num: 255}, conOf("Nil"))))
}

// P13.1: what stands in a few parts.
func TestPlainKinds(t *testing.T) {
	checkTexts(t, [][2]string{
		{"- 1", "(#sub 0 1)"}, {"- x", "(#sub 0 x)"}, {"- (- (add 1 2))", "(#sub 0 (#sub 0 (#add 1 2)))"}, {`\ sub -> - 1`, `(\ a -> (let no = failure in (let sub = a in (#sub 0 1))))`},
		{"(1, x)", "(Tup2 1 x)"}, {"(1, B, 3)", `(Tup3 1 (\ a -> (B a)) 3)`}, {"(1, 2, 3, (4, 5))", "(Tup4 1 2 3 (Tup2 4 5))"},
		{"[1]", "(Cons 1 (Nil))"}, {"[x, B 2, [3]]", "(Cons x (Cons (B 2) (Cons (Cons 3 (Nil)) (Nil))))"},
		{"if x then y else z", "(case x of True -> y; False -> z)"}, {"if a then if b then 1 else 2 else 3", "(case a of True -> (case b of True -> 1; False -> 2); False -> 3)"},
		{"1 : x", "(Cons 1 x)"}, {"1 + 2", "(+ 1 2)"}, {"x `add` y", "(#add x y)"}, {"x `f` y", "(f x y)"},
	})
}

// P13.1: applications: of constructors and primitives with too few, as many and too many arguments.
func TestApplications(t *testing.T) {
	checkTexts(t, [][2]string{
		{"f 1", "(f 1)"}, {"f x (g 2) 'a'", "(f x (g 2) '97')"}, {"(f 1) 2", "((f 1) 2)"}, {"f f", "(f f)"},
		{"A 1", "((A) 1)"}, {"A 1 2", "((A) 1 2)"}, {"True x", "((True) x)"}, {"[] 1", "((Nil) 1)"}, {"() 1", "((Unit) 1)"},
		{"B 1", "(B 1)"}, {"B 1 2", "((B 1) 2)"}, {"B 1 2 3", "((B 1) 2 3)"}, {"B B", `(B (\ a -> (B a)))`},
		{"C 1", `((\ a b c -> (C a b c)) 1)`}, {"C 1 2", `((\ a b c -> (C a b c)) 1 2)`}, {"C 1 2 3", "(C 1 2 3)"}, {"C 1 2 3 4", "((C 1 2 3) 4)"},
		{"(:) 1", `((\ a b -> (Cons a b)) 1)`}, {"(:) 1 2", "(Cons 1 2)"}, {"(:) 1 2 3", "((Cons 1 2) 3)"}, {"Cons 1 2", "(Cons 1 2)"}, {"Tup3 1 2 3", "(Tup3 1 2 3)"},
		{"add 1 2 3", "((#add 1 2) 3)"}, {"add 1 2 3 4", "((#add 1 2) 3 4)"}, {"ord 1", "(#ord 1)"}, {"ord 1 2", "((#ord 1) 2)"}, {"getc 1", "((#getc) 1)"}, {"getc 1 2", "((#getc) 1 2)"}, {"bind getc ret", `(#bind (#getc) (\ a -> (#ret a)))`},
		{"(C) 1 2 3", "(C 1 2 3)"}, {"((C)) 1 2", `((\ a b c -> (C a b c)) 1 2)`}, {"((add)) 1 2 3", "((#add 1 2) 3)"}, {"(A) 1", "((A) 1)"}, {"(f) 1", "(f 1)"}, {"((f 1)) 2", "((f 1) 2)"},
		{"(C 1) 2 3", `(((\ a b c -> (C a b c)) 1) 2 3)`}, {"(add 1) 2", `(((\ a b -> (#add a b)) 1) 2)`}, {"1 2", "(1 2)"}, {"(if a then add else f) 1 2", `((case a of True -> (\ a b -> (#add a b)); False -> f) 1 2)`},
	})
	checkExpr(t, node(api.NdApp, named(api.NdCon, ":+"), one(), one(), one()), appOf(conOf(":+", number(1), number(1)), number(1)))
}

// P13.1: a primitive that a scope hides is a variable, wherever the name is bound.
func TestHiddenPrimitives(t *testing.T) {
	checkTexts(t, [][2]string{
		{`\ add -> add 1 2`, `(\ a -> (let no = failure in (let add = a in (add 1 2))))`},
		{`\ getc -> getc`, `(\ a -> (let no = failure in (let getc = a in getc)))`},
		{`\ (a, ord@(b)) -> ord`, `(\ u -> (let no = failure in (case u of Tup2 v w -> (let a = v in (let ord = w in (let b = w in ord))); _ -> no)))`},
		{"let add = 1 in add 1 2", "(let add = 1 in (add 1 2))"}, {"let { ord x = 1 } in ord", `(let ord = (\ u -> (let no = failure in (let x = u in 1))) in ord)`},
		{"let x = add 1 2 in add", `(let x = (#add 1 2) in (\ a b -> (#add a b)))`}, {"let add = add 1 2 in 3", "(let add = (add 1 2) in 3)"},
		{"(let add = 1 in add, add)", `(Tup2 (let add = 1 in add) (\ a b -> (#add a b)))`}, {`((\ add -> 1), add)`, `(Tup2 (\ a -> (let no = failure in (let add = a in 1))) (\ a b -> (#add a b)))`},
		{"case ord 1 of ord -> ord 2", "(let v = (#ord 1) in (let no = failure in (let ord = v in (ord 2))))"}, {"(case 1 of { ord -> ord }, ord)", `(Tup2 (let v = 1 in (let no = failure in (let ord = v in ord))) (\ a -> (#ord a)))`},
		{"case x of y | eof -> eof where eof = 1", "(let v = x in (let no = failure in (let y = v in (let eof = 1 in (case eof of True -> eof; False -> no)))))"},
		{"do { getc <- getc ; getc }", `(#bind (#getc) (\ a -> (let no = failure in (let getc = a in getc))))`}, {"do { let { eof = eof } ; eof }", "(let eof = eof in eof)"}, {"(do { let { eof = 1 } ; 2 }, eof)", "(Tup2 (let eof = 1 in 2) (#eof))"},
		{"[ ord | ord <- ord ]", `(let h = (\ us -> (case us of Nil -> (Nil); Cons u ws -> (let no = (let no = failure in (h ws)) in (let ord = u in (Cons ord (h ws)))))) in (h (\ a -> (#ord a))))`}, {"([ eof | let eof = 1 ], eof)", "(Tup2 (let eof = 1 in (Cons eof (Nil))) (#eof))"},
		{`\ add -> (1 ` + "`add`)", `(\ a -> (let no = failure in (let add = a in (add 1))))`}, {`\ add -> (` + "`add` 1)", `(\ a -> (let no = failure in (let add = a in (let v = 1 in (\ x -> (add x v))))))`},
		{`\ x -> \ add -> let x = add in add x`, `(\ a -> (let no = failure in (let x = a in (\ b -> (let no = failure in (let add = b in (let x = add in (add x))))))))`},
	})
}

// P13.1: sections: their operators names, constructors and primitives.
func TestSections(t *testing.T) {
	checkTexts(t, [][2]string{
		{"(x +)", "(+ x)"}, {"(x `f`)", "(f x)"}, {"(f 1 +)", "(+ (f 1))"}, {"(1 :)", `((\ a b -> (Cons a b)) 1)`}, {"(1 `add`)", `((\ a b -> (#add a b)) 1)`},
		{"(1 `A`)", "((A) 1)"}, {"(1 `B`)", "(B 1)"}, {"(1 `C`)", `((\ a b c -> (C a b c)) 1)`}, {"(1 `ord`)", "(#ord 1)"}, {"(1 `getc`)", "((#getc) 1)"},
		{"(+ x)", `(let v = x in (\ y -> (+ y v)))`}, {"(`f` (g 1))", `(let v = (g 1) in (\ y -> (f y v)))`}, {"(: 1)", `(let v = 1 in (\ y -> (Cons y v)))`}, {"(`add` 1)", `(let v = 1 in (\ y -> (#add y v)))`},
		{"(`A` 1)", `(let v = 1 in (\ y -> ((A) y v)))`}, {"(`B` 1)", `(let v = 1 in (\ y -> ((B y) v)))`}, {"(`C` 1)", `(let v = 1 in (\ y -> ((\ a b c -> (C a b c)) y v)))`}, {"(`ord` 1)", `(let v = 1 in (\ y -> ((#ord y) v)))`}, {"(`getc` 1)", `(let v = 1 in (\ y -> ((#getc) y v)))`},
		{"(+ (+ 1))", `(let v = (let w = 1 in (\ y -> (+ y w))) in (\ y -> (+ y v)))`},
		{"(1 +) 2", "((+ 1) 2)"}, {"(1 `B`) 2", "((B 1) 2)"}, {"(1 `add`) 2", `(((\ a b -> (#add a b)) 1) 2)`},
	})
	checkExpr(t, named(api.NdRight, ":+", one()), letIn(lamOf(conOf(":+", variable("x"), variable("v")), "x"), api.Bind{Name: "v", E: number(1)}))
}

// P13.1: a section's operator that is a constructor which is none is taken as one without parts, alone and within other expressions.
func TestSectionsOfUnknown(t *testing.T) {
	checkTexts(t, [][2]string{
		{"(x `Zoe`)", "((Zoe) x)"}, {"(`Zoe` x)", `(let v = x in (\ y -> ((Zoe) y v)))`}, {"(x `Zoe`) 1 2", "(((Zoe) x) 1 2)"}, {"((`Zoe` 1) 2)", `((let v = 1 in (\ y -> ((Zoe) y v))) 2)`},
		{"(`Zoe` (1 `Zoe`))", `(let v = ((Zoe) 1) in (\ y -> ((Zoe) y v)))`}, {"((: 1) `Zoe`)", `((Zoe) (let v = 1 in (\ y -> (Cons y v))))`}, {"(: (`Zoe` 1))", `(let v = (let w = 1 in (\ y -> ((Zoe) y w))) in (\ y -> (Cons y v)))`},
		{"let z = (`Zoe` z) in z", `(let z = (let v = z in (\ y -> ((Zoe) y v))) in z)`}, {`\ x -> (x ` + "`Zoe`)", `(\ a -> (let no = failure in (let x = a in ((Zoe) x))))`}, {"case x of y -> (y `Zoe`)", "(let v = x in (let no = failure in (let y = v in ((Zoe) y))))"},
		{"do { (1 `Zoe`) ; (`Zoe` 2) }", `(#bind ((Zoe) 1) (\ a -> (let v = 2 in (\ y -> ((Zoe) y v)))))`}, {"[ 1 | (x `Zoe`) ]", "(case ((Zoe) x) of True -> (Cons 1 (Nil)); False -> (Nil))"}, {"[(1 `Zoe`), (1 `A`)]", "(Cons ((Zoe) 1) (Cons ((A) 1) (Nil)))"},
	})
	checkExpr(t, tree(t, "(1 :~)"), appOf(conOf(":~"), number(1)))
	checkExpr(t, tree(t, "(:~ 1)"), letIn(lamOf(appOf(conOf(":~"), variable("x"), variable("v")), "x"), api.Bind{Name: "v", E: number(1)}))
}

// of is a node applied to so many ones.
func of(f api.Node, n int) api.Node {
	return node(api.NdApp, append([]api.Node{f}, many(n, one())...)...)
}

// to is an expression applied to so many ones at a time.
func to(e api.Expr, times ...int) api.Expr {
	for _, n := range times {
		e = appOf(append([]api.Expr{e}, many(n, number(1))...)...)
	}
	return e
}

// P13.1: more than 32 arguments are parted: 32 at a time, those that a constructor or a primitive takes aside.
func TestManyArguments(t *testing.T) {
	f, c, b, a, add := named(api.NdVar, "f"), named(api.NdCon, "C"), named(api.NdCon, "B"), named(api.NdCon, "A"), named(api.NdVar, "add")
	for _, x := range []struct {
		n    api.Node
		want api.Expr
	}{
		{of(f, 31), to(variable("f"), 31)}, {of(f, 32), to(variable("f"), 32)}, {of(f, 33), to(variable("f"), 32, 1)}, {of(f, 64), to(variable("f"), 32, 32)}, {of(f, 65), to(variable("f"), 32, 32, 1)}, {of(f, 100), to(variable("f"), 32, 32, 32, 4)},
		{of(c, 35), to(conOf("C", many(3, number(1))...), 32)}, {of(c, 36), to(conOf("C", many(3, number(1))...), 32, 1)}, {of(b, 33), to(conOf("B", number(1)), 32)}, {of(a, 33), to(conOf("A"), 32, 1)},
		{of(add, 34), to(primOf("add", number(1), number(1)), 32)}, {of(add, 35), to(primOf("add", number(1), number(1)), 32, 1)}, {of(node(api.NdParen, c), 36), to(conOf("C", many(3, number(1))...), 32, 1)},
		{of(of(f, 20), 20), to(variable("f"), 20, 20)},
	} {
		checkExpr(t, x.n, x.want)
	}
}

// P13.1: lambdas of one and of several patterns.
func TestLambdas(t *testing.T) {
	checkTexts(t, [][2]string{
		{`\ _ -> 1`, `(\ a -> (let no = failure in 1))`}, {`\ x y -> x`, `(\ a b -> (let no = failure in (let x = a in (let y = b in x))))`},
		{`\ 1 -> 2`, `(\ a -> (let no = failure in (case a of 1 -> 2; _ -> no)))`}, {`\ 'a' "b" -> 2`, `(\ a b -> (let no = failure in (case a of '97' -> (case b of Cons c d -> (case c of '98' -> (case d of Nil -> 2; _ -> no); _ -> no); _ -> no); _ -> no)))`},
		{`\ (x, _) (B y) -> x`, `(\ a b -> (let no = failure in (case a of Tup2 c d -> (let x = c in (case b of B e -> (let y = e in x); _ -> no)); _ -> no)))`},
		{`\ [] (x : y) -> y`, `(\ a b -> (let no = failure in (case a of Nil -> (case b of Cons c d -> (let x = c in (let y = d in y)); _ -> no); _ -> no)))`},
		{`\ ~(x, y) -> x`, `(\ a -> (let no = failure in (let x = (case a of Tup2 c d -> (let e = c in (let f = d in e)); _ -> failure) in x)))`}, {`\ ~(x, y) -> 1`, `(\ a -> (let no = failure in 1))`}, {`\ ~(x, y) -> (\ x -> x)`, `(\ a -> (let no = failure in (\ b -> (let no = failure in (let x = b in x)))))`},
		{`\ ~[x, y] z -> (z, y, x)`, `(\ a z -> (let no = failure in (let x = (case a of Cons c d -> (let p = c in (case d of Cons e f -> (let q = e in (case f of Nil -> p; _ -> failure)); _ -> failure)); _ -> failure); y = (case a of Cons c d -> (let p = c in (case d of Cons e f -> (let q = e in (case f of Nil -> q; _ -> failure)); _ -> failure)); _ -> failure) in (let y1 = z in (Tup3 y1 y x)))))`},
		{`\ x -> \ y -> x`, `(\ a -> (let no = failure in (let x = a in (\ b -> (let no = failure in (let y = b in x))))))`}, {`\ x -> \ x -> x`, `(\ a -> (let no = failure in (let x = a in (\ b -> (let no = failure in (let x = b in x))))))`},
		{`(\ x -> x) 1`, `((\ a -> (let no = failure in (let x = a in x))) 1)`},
	})
}

// P13.1: choices of one and of several alternatives, with guards and without.
func TestCases(t *testing.T) {
	checkTexts(t, [][2]string{
		{"case x of y -> y", "(let v = x in (let no = failure in (let y = v in y)))"}, {"case x of _ -> x", "(let v = x in (let no = failure in x))"},
		{"case f 1 of { [] -> 1 ; x : y -> x }", "(let v = (f 1) in (let no = (let no = failure in (case v of Cons a b -> (let x = a in (let y = b in x)); _ -> no)) in (case v of Nil -> 1; _ -> no)))"},
		{"case x of { 1 -> 2 ; 3 -> 4 ; _ -> x }", "(let v = x in (let no = (let no = (let no = failure in x) in (case v of 3 -> 4; _ -> no)) in (case v of 1 -> 2; _ -> no)))"},
		{"case x of { y | y -> 1 }", "(let v = x in (let no = failure in (let y = v in (case y of True -> 1; False -> no))))"},
		{"case x of { y | a -> 1 | b -> 2 ; z -> 3 }", "(let v = x in (let no = (let no = failure in (let z = v in 3)) in (let y = v in (case a of True -> 1; False -> (case b of True -> 2; False -> no)))))"},
		{"case x of { y | a -> case 1 of { 2 | b -> 3 } }", "(let v = x in (let no = failure in (let y = v in (case a of True -> (let w = 1 in (let n = failure in (case w of 2 -> (case b of True -> 3; False -> n); _ -> n))); False -> no))))"},
		{"case x of { y -> y + z where { z = y } }", "(let v = x in (let no = failure in (let y = v in (let z = y in (+ y z)))))"}, {"case x of { y | z -> 1 where z = y }", "(let v = x in (let no = failure in (let y = v in (let z = y in (case z of True -> 1; False -> no)))))"},
		{"case x of { y -> y where y = 1 }", "(let v = x in (let no = failure in (let z = v in (let y = 1 in y))))"}, {"case x of { ~(B y) -> y where y = 1 }", "(let v = x in (let no = failure in (let y = 1 in y)))"}, {"case x of { ~(B y) | y -> 1 }", "(let v = x in (let no = failure in (let y = (case v of B a -> (let b = a in b); _ -> failure) in (case y of True -> 1; False -> no))))"},
	})
}
