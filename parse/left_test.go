package parse_test

import (
	"testing"

	"thunkmill/api"
	"thunkmill/parse"
)

// nones are texts that are read as operands and operators, but are no patterns: the mark stands at the first thing in them that is none.
const nones = `
§1 2
§f x
§(f) x
§(C) x
§(+)
§(:)
§(-)
§(+) x y
§(:) x
§(:) x y z
§(:+) x
§() x
§_ x
§~x y
§x@y z
§"a" x
§[] x
§(x, y) z
§(x : y) z
§- x
§- 1
x §+ y
x : y §+ z
x §+ y : z
x §- y
x §. y : z
§- x : y
x : §- y
x : §1 2 : y
§f x : y
x : §f y
§f x + y
C §- x
C (§- x)
C (§f x)
C x (§f y) (g z)
C (x §+ y)
(§f x)
((§f x))
(§- 1)
(x §+ y)
(x, §f y)
(x, y, C (§f z), g z)
[x, §f y]
[§1 2]
[x : (y §+ z)]
x@(§f y)
x @ (y §+ z)
~(§f x)
~ [x, §- 1]
C ~(§f x)
§\ x -> y
(§\ x -> y)
C (§\ x -> y)
§let { } in x
(§let { } in x)
(§if a then b else c)
§case x of { y -> z }
(§case x of { y -> z })
§do { x }
x : §do { y }
§(x +)
§(+ x)
C §(x +)
C §(+ x)
C §(: x)
§[x | y]
C §[x | y <- z]
(x, §[y | z])
x : §(y :)
`

// TestNones: left sides that are none (P6.1).
func TestNones(t *testing.T) {
	rows := lines(nones)
	more := []string{"§(`x`)", "§(`C`)", "§(`C`) x", "x §`f` y", "C (x §`f` y)", "x : y §`f` z", "§(`x`) : y", "C §(`x`)"}
	for _, m := range append(rows, more...) {
		wantFaults(t, parse.Raw, api.ErrSyntax,
			"x = case y of { "+m+" -> z }", "x = case y of { "+m+" | a -> z }", "x = do { "+m+" <- y ; z }", "x = [ y | "+m+" <- z ]")
		wantFaults(t, parse.Expr, api.ErrSyntax, "case y of "+m+" -> z", "[ y | z, "+m+" <- z ]")
		wantFaults(t, parse.Raw, api.ErrSyntax, `x = \ ( `+m+` ) -> y`, "f ("+m+") = y", "("+m+", z) = y")
	}
}

// TestDefinitionNones: left sides of declarations that are none (P6.1).
func TestDefinitionNones(t *testing.T) {
	for _, m := range lines(`
§1 2
f (§g x)
f x (§g y) (g z)
f §(+ x)
f x §(y +)
(+) (§g x)
§(+)
§(-)
§(:)
§(:) x
§() x
§(C) x
§(f) x
§(f x) y
§_ x
§~f x
§x @ f y
§- x
§- f x
§- x + y
x + §- y
§f x + y
x + §f y
x §+ y + z
x §+ y : z
x : y §+ z
x + §1 2
x + (y §+ z)
(x §+ y)
((x §+ y))
§((x + y)) z
§(x + y + z) w
§(x : y) z
§(x + y, z) w
(§f x + y) z
(x + §f y) z
(x + y) (§f z)
(x + y) z (§- w)
(§- x + y) z
§(x +) y
§(+ x) y
§(\ x -> y) z
§if a then b else c
§do { x }
§"a" b
`) {
		for _, read := range programReaders() {
			wantFaults(t, read, api.ErrSyntax, m+" = 1", m+" | a = 1", "y = 1\n"+m+" = )", "{ y = z where { "+m+" = 1 } }", m+" | )", "y = let "+m+" = 1 in y")
		}
	}
}

// TestWhenLeftSidesAreTold: a left side that is none is told of once its sign is there, and not ahead (P6.1).
func TestWhenLeftSidesAreTold(t *testing.T) {
	for _, read := range programReaders() {
		wantFaults(t, read, api.ErrSyntax,
			"1 2 §)", "1 2§", "1 2 §-> 3", "f (1 2) §)", "1 + (§= 2", "§1 2 = )", "§1 2 | )", "1 2 §<- 3",
			"x = case y of { 1 2 §}", "x = case y of { 1 2 §= 3 }", "x = case y of { §1 2 -> ) }", "x = case y of { §1 2 | ) }",
			"x = do { 1 2 §= 3 }", "x = do { §1 2 <- ) }", "x = [ y | 1 2 §= 3 ]", "x = [ y | §1 2 <- ) ]",
			`x = \ (1 2) §)`, `x = \ (1 2) §= y`, `x = \ (§1 2) -> )`,
			"§1 2 = 3 4 = 5", "f x = 1\n§1 2 = 3\n) = 4")
		wantFaults(t, read, api.ErrLayout, "1 2 §}", "x = case y of z -> (1 2) §}", "x = \\ (1 2) §}")
	}
}

// looses are texts in which one of _ @ ~ stands; the first of them is marked.
const looses = `
§_
§~x
x §@ y
x §@ _
§~ x @ _
f §_
f x §@ y
f x §~y
§_ + x
x + §_
- §_
(§_)
((§_))
(x, §_)
(§_, _)
[§_]
[x, y §@ z]
f (g §_) _
x : §_
(x, [y, z : §_], ~w)
C §_
f $ §_
`

// TestLoose: where none of _ @ ~ may be, the first one is told (P6.1, P6.2).
func TestLoose(t *testing.T) {
	for _, m := range lines(looses) {
		for _, read := range programReaders() {
			wantFaults(t, read, api.ErrSyntax,
				"x = "+m, "x = "+m+" )", "x | "+m+" = 1", "x | a = "+m, "x | a = 1 | "+m+" = _", "f x = "+m+" where { ) }", "{ x = "+m+" ; y = _ }",
				"x = do { "+m+" }", "x = do { "+m+" = 1 }", "x = do { y <- "+m+" ; z }", "x = do "+m, "x = do { "+m+" ; ) }",
				"x = [ "+m+" | y ]", "x = [ y | "+m+" ]", "x = [ y | "+m+", z ]", "x = [ y | z <- "+m+" ]", "x = [ y | "+m+" = z ]", "x = [ "+m+" ]",
				"x = case "+m+" of { y -> z }", "x = case y of { z -> "+m+" }", "x = case y of { _ | "+m+" -> z }", "x = case y of _ -> "+m,
				`x = \ _ -> `+m, "x = let { _ = 1 } in "+m, "x = let y = "+m+" in _", "x = do { let { } in "+m+" }",
				"x = if "+m+" then y else z", "x = if x then "+m+" else z", "x = if x then y else "+m, "x = (+ "+m+")", "x = (("+m+") +)", "x = ("+m+")", "x = ("+m+", y)")
		}
		wantFaults(t, parse.Expr, api.ErrSyntax, m, "{ "+m+" }", m+" )", m+" }", m+" ; x", m+" = 1", "f ("+m+")", `\ _ -> `+m, "let _ = 1 in "+m)
	}
}

// TestWhenLooseAreTold: a _ @ ~ is told of at the token behind the operands and operators in which it stands, and not ahead (P6.1).
func TestWhenLooseAreTold(t *testing.T) {
	for _, read := range programReaders() {
		wantFaults(t, read, api.ErrSyntax,
			// They might go on: what can't go on comes first.
			"x = _ + §)", "x = (_ §]", "x = (_, §)", "x = [_, §)", "x = f _ (§]", "x = _ `§)", "x = - _ + §", "x = y @§", "x = ~§",
			// A declaration, an alternative might begin with them.
			"_§", "_ §)", "x @ y §)", "~x §-> y", "f _ §, y", "x = case y of { _ §}", "x = case y of { _ §= z }", `x = \ _ §)`, `x = \ x@_ ~y §= z`,
			// What is behind the token that is behind them comes later.
			"x = §_ where )", "x = do { §_ ; ) }", "x = if §_ then )", "x = case §_ of )", "x | §_ = )", "x = [ §_ | ) ]", "x = (+ §_ ]", "x = (§_ +) )",
			"x = do { §_ = ) }", "x = [ y | §_ = ) ]", "x = §_ = )",
			`x = (\ y -> §_, ])`, "x = (let { } in §_, ])", "x = (if a then b else §_, ])", "x = (if a then §_ else ])", "x = (+ §_, ])", "x = (do { §_ }, ])",
			// The first one of several is told, the first ops of several, too.
			"x = (§_, x @ y, ~z)", "x = f §~y _", "x | §_ = _", "x = if y §@ z then _ else _",
			// Of what is known at one token the first from the left is told.
			`x = §_ + \ y -> _`, `§\ x -> _ = 1`, "§if a then b else _ = 1", "x = do { §let { } in _ <- y ; z }", `x = case y of { §\ x -> _ | z }`,
			// In what is no left side: as soon as no left side can be around.
			"if §_ then a else b = 1", "(if §_ then a else b) = 1", "case §_ of { y -> z } = 1", "f (+ §_) = 1", "f (§_ +) = 1", "f [ §_ | x ] = 1", `f (\ x -> §_) = 1`, "f (let { } in §_) = 1",
		)
		wantFaults(t, read, api.ErrLayout, "_ §}", "x = _ + §}", "x = (_ §}", "{ x = _ +§")
		wantFaults(t, read, api.ErrSyntax, "x = §_ }", "x = do §_ }", "{ x = §_")
	}
}

// TestTight: in left sides of all kinds _ @ ~ may stand, how deep soever (P6.1).
func TestTight(t *testing.T) {
	wantTold(t, wholeProgram, map[string]string{
		"f _ x@_ ~y | a = b":      "Program(Eqn:f(PAny, PAs:x(PAny), PLazy(PVar:y), Rhs(Guard(Var:a, Var:b))))",
		"_ + ~_ = 1":              "Program(Eqn:+(PAny, PLazy(PAny), Rhs(Int:1)))",
		"(_ : [x @ (~_, _)]) = 1": "Program(Bind(POps(PAny, Op::, PList(PAs:x(PTuple(PLazy(PAny), PAny)))), Rhs(Int:1)))",
		`x = \ _ y@_ ~_ -> case y of { _ -> do { _ <- y ; [ y | ~_ <- z ] } }`: "Program(Bind(PVar:x, Rhs(Lam(PAny, PAs:y(PAny), PLazy(PAny), Case(Var:y, Alt(PAny, Rhs(Do(Gen(PAny, Var:y), Stmt(Comp(Var:y, Gen(PLazy(PAny), Var:z)))))))))))",
		`x = (\ _ -> y) + [ \ _ -> z | \ _ -> w ]`:                             "Program(Bind(PVar:x, Rhs(Ops(Paren(Lam(PAny, Var:y)), Op:+, Comp(Lam(PAny, Var:z), Stmt(Lam(PAny, Var:w)))))))",
	})
}
