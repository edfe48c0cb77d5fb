package parse_test

import (
	"testing"

	"thunkmill/api"
	"thunkmill/parse"
)

// TestChapterExamples: the worked examples of the chapter.
func TestChapterExamples(t *testing.T) {
	wantTold(t, wholeProgram, map[string]string{
		"f 0 = 1\nf n = n * f (n - 1)":             "Program(Eqn:f(PInt:0, Rhs(Int:1)), Eqn:f(PVar:n, Rhs(Ops(Var:n, Op:*, App(Var:f, Paren(Ops(Var:n, Op:-, Int:1)))))))",
		"main = do\n  c <- getChar\n  putChar c":   "Program(Bind(PVar:main, Rhs(Do(Gen(PVar:c, Var:getChar), Stmt(App(Var:putChar, Var:c))))))",
		"f x = case x of { Just y -> y ; _ -> 0 }": "Program(Eqn:f(PVar:x, Rhs(Case(Var:x, Alt(PCon:Just(PVar:y), Rhs(Var:y)), Alt(PAny, Rhs(Int:0))))))",
	})
	n, f := parse.Expr("let x = 1; y = 2 in x + y")
	if got := told(n); got != "Let(Where(Bind(PVar:x, Rhs(Int:1)), Bind(PVar:y, Rhs(Int:2))), App(Var:+, Var:x, Var:y))" || f != (api.Fault{}) {
		t.Errorf("Expr of the block that is closed ahead of in: %s %v", got, f)
	}
	for _, read := range []reader{parse.Raw, parse.Parse} {
		wantFaults(t, read, api.ErrSyntax, "f = §)", "x + 1 = §", "§1 2 = 3")
	}
}

// TestAtoms: each way of an atom (P6.1).
func TestAtoms(t *testing.T) {
	wantTold(t, rightSide, map[string]string{
		"x":       "Var:x",
		"_x'":     "Var:_x'",
		"C":       "Con:C",
		"12":      "Int:12",
		"0x1f":    "Int:31",
		"'a'":     "Char:97",
		`'\n'`:    "Char:10",
		`"ab"`:    `String:"ab"`,
		`""`:      `String:""`,
		`"(\n"`:   `String:"(\n"`,
		`";"`:     `String:";"`,
		"( )":     "Con:Unit",
		"()":      "Con:Unit",
		"(x)":     "Paren(Var:x)",
		"((x))":   "Paren(Paren(Var:x))",
		"(x + y)": "Paren(Ops(Var:x, Op:+, Var:y))",

		"(x, y)":       "Tuple(Var:x, Var:y)",
		"(x, y, z)":    "Tuple(Var:x, Var:y, Var:z)",
		"(x, y, z, 1)": "Tuple(Var:x, Var:y, Var:z, Int:1)",
		"(x + 1, - y)": "Tuple(Ops(Var:x, Op:+, Int:1), Neg(Var:y))",
		"(- x, y)":     "Tuple(Neg(Var:x), Var:y)",

		"(+)":   "Var:+",
		"(.)":   "Var:.",
		"(:)":   "Con::",
		"(:+)":  "Con::+",
		"(`f`)": "Var:f",
		"(`C`)": "Con:C",
		"(-)":   "Var:-",
		"( - )": "Var:-",

		"[]":                             "List",
		"[ ]":                            "List",
		"[x]":                            "List(Var:x)",
		"[x, y + 1, z]":                  "List(Var:x, Ops(Var:y, Op:+, Int:1), Var:z)",
		"[1, 2, 3, 4, 5]":                "List(Int:1, Int:2, Int:3, Int:4, Int:5)",
		"[[], [x]]":                      "List(List, List(Var:x))",
		"[x | y]":                        "Comp(Var:x, Stmt(Var:y))",
		"[x + 1 | y z, w]":               "Comp(Ops(Var:x, Op:+, Int:1), Stmt(App(Var:y, Var:z)), Stmt(Var:w))",
		"[x | x <- y]":                   "Comp(Var:x, Gen(PVar:x, Var:y))",
		"[x | let { x = 1 }]":            "Comp(Var:x, Lets(Where(Bind(PVar:x, Rhs(Int:1)))))",
		"[x | let x = 1, y]":             "Comp(Var:x, Lets(Where(Bind(PVar:x, Rhs(Int:1)))), Stmt(Var:y))",
		"[x | let x = 1; y = 2]":         "Comp(Var:x, Lets(Where(Bind(PVar:x, Rhs(Int:1)), Bind(PVar:y, Rhs(Int:2)))))",
		"[x | let x = 1 in x, y]":        "Comp(Var:x, Stmt(Let(Where(Bind(PVar:x, Rhs(Int:1))), Var:x)), Stmt(Var:y))",
		"[x | (x, _) <- a, x : y <- b]":  "Comp(Var:x, Gen(PTuple(PVar:x, PAny), Var:a), Gen(POps(PVar:x, Op::, PVar:y), Var:b))",
		"[[y | y <- x] | x <- z, [x|x]]": "Comp(Comp(Var:y, Gen(PVar:y, Var:x)), Gen(PVar:x, Var:z), Stmt(Comp(Var:x, Stmt(Var:x))))",
	})
}

// TestSections: operators in parentheses, on both sides, and the - that is none there (P6.1).
func TestSections(t *testing.T) {
	wantTold(t, rightSide, map[string]string{
		"(x +)":         "Left:+(Var:x)",
		"(x -)":         "Left:-(Var:x)",
		"(x :)":         "Left::(Var:x)",
		"(x `f`)":       "Left:f(Var:x)",
		"(x `C`)":       "Left:C(Var:x)",
		"(f x +)":       "Left:+(App(Var:f, Var:x))",
		"(x + y *)":     "Left:*(Ops(Var:x, Op:+, Var:y))",
		"(x - y -)":     "Left:-(Ops(Var:x, Op:-, Var:y))",
		"(- x +)":       "Left:+(Neg(Var:x))",
		"(- x -)":       "Left:-(Neg(Var:x))",
		"(x + - y *)":   "Left:*(Ops(Var:x, Op:+, Neg(Var:y)))",
		"(do { x } +)":  "Left:+(Do(Stmt(Var:x)))",
		"((x +) + (y))": "Paren(Ops(Left:+(Var:x), Op:+, Paren(Var:y)))",
		"(+ x)":         "Right:+(Var:x)",
		"(: x)":         "Right::(Var:x)",
		"(`f` x)":       "Right:f(Var:x)",
		"(`C` x)":       "Right:C(Var:x)",
		"(+ f x)":       "Right:+(App(Var:f, Var:x))",
		"(+ x * y)":     "Right:+(Ops(Var:x, Op:*, Var:y))",
		"(+ - x)":       "Right:+(Neg(Var:x))",
		`(+ \ x -> y)`:  "Right:+(Lam(PVar:x, Var:y))",
		"(- x)":         "Paren(Neg(Var:x))",
		"(- f x)":       "Paren(Neg(App(Var:f, Var:x)))",
		"(- x + y)":     "Paren(Ops(Neg(Var:x), Op:+, Var:y))",
	})
}

// TestOperators: operands and operators by turns, applications, negations (P6.1).
func TestOperators(t *testing.T) {
	wantTold(t, rightSide, map[string]string{
		"f x":                  "App(Var:f, Var:x)",
		`C 1 'a' "b" [] `:      `App(Con:C, Int:1, Char:97, String:"b", List)`,
		"f (g x) y":            "App(Var:f, Paren(App(Var:g, Var:x)), Var:y)",
		"(f x) y":              "App(Paren(App(Var:f, Var:x)), Var:y)",
		"(+) x y":              "App(Var:+, Var:x, Var:y)",
		"1 2":                  "App(Int:1, Int:2)",
		"x + y":                "Ops(Var:x, Op:+, Var:y)",
		"x + y * z":            "Ops(Var:x, Op:+, Var:y, Op:*, Var:z)",
		"x == y == z":          "Ops(Var:x, Op:==, Var:y, Op:==, Var:z)",
		"x : y":                "Ops(Var:x, Op::, Var:y)",
		"x `f` y `C` z":        "Ops(Var:x, Op:f, Var:y, Op:C, Var:z)",
		"x ` f ` y":            "Ops(Var:x, Op:f, Var:y)",
		"f x + g y":            "Ops(App(Var:f, Var:x), Op:+, App(Var:g, Var:y))",
		"x - y":                "Ops(Var:x, Op:-, Var:y)",
		"- x":                  "Neg(Var:x)",
		"- f x":                "Neg(App(Var:f, Var:x))",
		"- x - y":              "Ops(Neg(Var:x), Op:-, Var:y)",
		"x - - y":              "Ops(Var:x, Op:-, Neg(Var:y))",
		"x * - y * - z":        "Ops(Var:x, Op:*, Neg(Var:y), Op:*, Neg(Var:z))",
		`- \ x -> x`:           "Neg(Lam(PVar:x, Var:x))",
		"- if a then b else c": "Neg(If(Var:a, Var:b, Var:c))",
	})
}

// TestExpressions: the ways of an expression, and how far to the right they go (P6.1).
func TestExpressions(t *testing.T) {
	wantTold(t, rightSide, map[string]string{
		`\ x -> x`:                                   "Lam(PVar:x, Var:x)",
		`\ x y 1 -> x`:                               "Lam(PVar:x, PVar:y, PInt:1, Var:x)",
		`\ x -> x + 1`:                               "Lam(PVar:x, Ops(Var:x, Op:+, Int:1))",
		`\ x -> \ y -> x y`:                          "Lam(PVar:x, Lam(PVar:y, App(Var:x, Var:y)))",
		`f $ \ x -> x + 1`:                           "Ops(Var:f, Op:$, Lam(PVar:x, Ops(Var:x, Op:+, Int:1)))",
		`(\ x -> x) + 1`:                             "Ops(Paren(Lam(PVar:x, Var:x)), Op:+, Int:1)",
		"let { x = 1 } in x":                         "Let(Where(Bind(PVar:x, Rhs(Int:1))), Var:x)",
		"let { } in x":                               "Let(Where, Var:x)",
		"let { x = 1 } in x + 1":                     "Let(Where(Bind(PVar:x, Rhs(Int:1))), Ops(Var:x, Op:+, Int:1))",
		"1 + let { } in x + 1":                       "Ops(Int:1, Op:+, Let(Where, Ops(Var:x, Op:+, Int:1)))",
		"if a then b else c":                         "If(Var:a, Var:b, Var:c)",
		"if a then b else c + d":                     "If(Var:a, Var:b, Ops(Var:c, Op:+, Var:d))",
		"if a + b then c d else e":                   "If(Ops(Var:a, Op:+, Var:b), App(Var:c, Var:d), Var:e)",
		"if a then if b then c else d else e":        "If(Var:a, If(Var:b, Var:c, Var:d), Var:e)",
		"case x of { y -> z }":                       "Case(Var:x, Alt(PVar:y, Rhs(Var:z)))",
		"case x of { 1 -> y ; 2 -> z }":              "Case(Var:x, Alt(PInt:1, Rhs(Var:y)), Alt(PInt:2, Rhs(Var:z)))",
		"case x + 1 of { y -> z + 1 }":               "Case(Ops(Var:x, Op:+, Int:1), Alt(PVar:y, Rhs(Ops(Var:z, Op:+, Int:1))))",
		"case x of { y | a -> b | c -> d }":          "Case(Var:x, Alt(PVar:y, Rhs(Guard(Var:a, Var:b), Guard(Var:c, Var:d))))",
		"case x of { y -> z where { z = 1 } }":       "Case(Var:x, Alt(PVar:y, Rhs(Var:z, Where(Bind(PVar:z, Rhs(Int:1))))))",
		"case x of { y | a -> z where { z = 1 } }":   "Case(Var:x, Alt(PVar:y, Rhs(Guard(Var:a, Var:z), Where(Bind(PVar:z, Rhs(Int:1))))))",
		"case x of { y -> z } + 1":                   "Ops(Case(Var:x, Alt(PVar:y, Rhs(Var:z))), Op:+, Int:1)",
		"do { x }":                                   "Do(Stmt(Var:x))",
		"do { x ; y z }":                             "Do(Stmt(Var:x), Stmt(App(Var:y, Var:z)))",
		"do { x <- y ; z }":                          "Do(Gen(PVar:x, Var:y), Stmt(Var:z))",
		"do { Just x <- y + 1 ; z }":                 "Do(Gen(PCon:Just(PVar:x), Ops(Var:y, Op:+, Int:1)), Stmt(Var:z))",
		"do { let { x = 1 } ; z }":                   "Do(Lets(Where(Bind(PVar:x, Rhs(Int:1)))), Stmt(Var:z))",
		"do { let { } ; z }":                         "Do(Lets(Where), Stmt(Var:z))",
		"do { let { } in x ; z }":                    "Do(Stmt(Let(Where, Var:x)), Stmt(Var:z))",
		"do { let { } in x + 1 }":                    "Do(Stmt(Let(Where, Ops(Var:x, Op:+, Int:1))))",
		"do { - let { } in x ; y }":                  "Do(Stmt(Neg(Let(Where, Var:x))), Stmt(Var:y))",
		"do { x } + 1":                               "Ops(Do(Stmt(Var:x)), Op:+, Int:1)",
		"do { do { x } ; do { y } }":                 "Do(Stmt(Do(Stmt(Var:x))), Stmt(Do(Stmt(Var:y))))",
		`\ x -> do { y } + case z of { a -> b } * c`: "Lam(PVar:x, Ops(Do(Stmt(Var:y)), Op:+, Case(Var:z, Alt(PVar:a, Rhs(Var:b))), Op:*, Var:c))",
	})
}

// TestDeclarations: each way of a declaration (P6.1).
func TestDeclarations(t *testing.T) {
	wantTold(t, oneDecl, map[string]string{
		"data T = C":                            "Data:T(ConDef:C:0)",
		"data T = C a":                          "Data:T(ConDef:C:1)",
		"data T = C a b | D | E a a a ":         "Data:T(ConDef:C:2, ConDef:D:0, ConDef:E:3)",
		"infixl 6 +":                            "Fixity:infixl:6(Op:+)",
		"infixr 0 +, -, :+":                     "Fixity:infixr:0(Op:+, Op:-, Op::+)",
		"infix 9 `f`, `C`, *":                   "Fixity:infix:9(Op:f, Op:C, Op:*)",
		"infix 0x9 +":                           "Fixity:infix:9(Op:+)",
		"x = y":                                 "Bind(PVar:x, Rhs(Var:y))",
		"x = y where":                           "Bind(PVar:x, Rhs(Var:y, Where))",
		"x = y where y = 1":                     "Bind(PVar:x, Rhs(Var:y, Where(Bind(PVar:y, Rhs(Int:1)))))",
		"x | a = b":                             "Bind(PVar:x, Rhs(Guard(Var:a, Var:b)))",
		"x | a = b | c d = e + 1":               "Bind(PVar:x, Rhs(Guard(Var:a, Var:b), Guard(App(Var:c, Var:d), Ops(Var:e, Op:+, Int:1))))",
		"x | a = b | c = d where b = 1":         "Bind(PVar:x, Rhs(Guard(Var:a, Var:b), Guard(Var:c, Var:d), Where(Bind(PVar:b, Rhs(Int:1)))))",
		`x | \ y -> z = b`:                      "Bind(PVar:x, Rhs(Guard(Lam(PVar:y, Var:z), Var:b)))",
		"x = a where { b = c where { c = 1 } }": "Bind(PVar:x, Rhs(Var:a, Where(Bind(PVar:b, Rhs(Var:c, Where(Bind(PVar:c, Rhs(Int:1))))))))",
		"x = a where { data T = C ; infixl 6 + ; f y = y }": "Bind(PVar:x, Rhs(Var:a, Where(Data:T(ConDef:C:0), Fixity:infixl:6(Op:+), Eqn:f(PVar:y, Rhs(Var:y)))))",
	})
}

// TestLeftSides: the left sides of declarations (P6.1).
func TestLeftSides(t *testing.T) {
	wantTold(t, around{"", " = 1", []int{0}}, map[string]string{
		"f x":             "Eqn:f(PVar:x, Rhs(Int:1))",
		"f x _ 1 'a'":     "Eqn:f(PVar:x, PAny, PInt:1, PChar:97, Rhs(Int:1))",
		"f (C x) C":       "Eqn:f(PCon:C(PVar:x), PCon:C, Rhs(Int:1))",
		"f x@y ~z":        "Eqn:f(PAs:x(PVar:y), PLazy(PVar:z), Rhs(Int:1))",
		"(+) x":           "Eqn:+(PVar:x, Rhs(Int:1))",
		"(+) x y z":       "Eqn:+(PVar:x, PVar:y, PVar:z, Rhs(Int:1))",
		"(-) x":           "Eqn:-(PVar:x, Rhs(Int:1))",
		"(`f`) x":         "Eqn:f(PVar:x, Rhs(Int:1))",
		"x + y":           "Eqn:+(PVar:x, PVar:y, Rhs(Int:1))",
		"x - y":           "Eqn:-(PVar:x, PVar:y, Rhs(Int:1))",
		"x `f` y":         "Eqn:f(PVar:x, PVar:y, Rhs(Int:1))",
		"C x + _":         "Eqn:+(PCon:C(PVar:x), PAny, Rhs(Int:1))",
		"x@y + ~z":        "Eqn:+(PAs:x(PVar:y), PLazy(PVar:z), Rhs(Int:1))",
		"(x : y) + (z)":   "Eqn:+(POps(PVar:x, Op::, PVar:y), PVar:z, Rhs(Int:1))",
		"(:) x y + z":     "Eqn:+(PCon::(PVar:x, PVar:y), PVar:z, Rhs(Int:1))",
		"(x + y) z":       "Eqn:+(PVar:x, PVar:y, PVar:z, Rhs(Int:1))",
		"(x `f` y) z _":   "Eqn:f(PVar:x, PVar:y, PVar:z, PAny, Rhs(Int:1))",
		"(C x - [y]) (z)": "Eqn:-(PCon:C(PVar:x), PList(PVar:y), PVar:z, Rhs(Int:1))",
		"x":               "Bind(PVar:x, Rhs(Int:1))",
		"(x)":             "Bind(PVar:x, Rhs(Int:1))",
		"_":               "Bind(PAny, Rhs(Int:1))",
		"C":               "Bind(PCon:C, Rhs(Int:1))",
		"C x y":           "Bind(PCon:C(PVar:x, PVar:y), Rhs(Int:1))",
		"(x, y)":          "Bind(PTuple(PVar:x, PVar:y), Rhs(Int:1))",
		"x : y":           "Bind(POps(PVar:x, Op::, PVar:y), Rhs(Int:1))",
		"x `C` y":         "Bind(POps(PVar:x, Op:C, PVar:y), Rhs(Int:1))",
		"x@y":             "Bind(PAs:x(PVar:y), Rhs(Int:1))",
		"~x":              "Bind(PLazy(PVar:x), Rhs(Int:1))",
		"(:) x y":         "Bind(PCon::(PVar:x, PVar:y), Rhs(Int:1))",
		"1":               "Bind(PInt:1, Rhs(Int:1))",
	})
	wantTold(t, around{"", " | a = 1", []int{0}}, map[string]string{
		"f x":   "Eqn:f(PVar:x, Rhs(Guard(Var:a, Int:1)))",
		"x + y": "Eqn:+(PVar:x, PVar:y, Rhs(Guard(Var:a, Int:1)))",
		"C x":   "Bind(PCon:C(PVar:x), Rhs(Guard(Var:a, Int:1)))",
	})
}

// TestPatterns: each way of a pattern, in each place where one stands (P6.1).
func TestPatterns(t *testing.T) {
	rows := map[string]string{
		"x":               "PVar:x",
		"C":               "PCon:C",
		"C x":             "PCon:C(PVar:x)",
		"C (D 1) _ x":     "PCon:C(PCon:D(PInt:1), PAny, PVar:x)",
		"(:) x y":         "PCon::(PVar:x, PVar:y)",
		"(:+) _ (C x)":    "PCon::+(PAny, PCon:C(PVar:x))",
		"(`C`) x y":       "PCon:C(PVar:x, PVar:y)",
		"x : y":           "POps(PVar:x, Op::, PVar:y)",
		"x : y :+ z":      "POps(PVar:x, Op::, PVar:y, Op::+, PVar:z)",
		"C x `D` (y : z)": "POps(PCon:C(PVar:x), Op:D, POps(PVar:y, Op::, PVar:z))",
	}
	atoms := map[string]string{
		"x":                "PVar:x",
		"C":                "PCon:C",
		"_":                "PAny",
		"12":               "PInt:12",
		"'a'":              "PChar:97",
		`"ab"`:             `PString:"ab"`,
		"()":               "PCon:Unit",
		"(x)":              "PVar:x",
		"((_))":            "PAny",
		"(C x)":            "PCon:C(PVar:x)",
		"(x, y)":           "PTuple(PVar:x, PVar:y)",
		"(x, _, 1, C y)":   "PTuple(PVar:x, PAny, PInt:1, PCon:C(PVar:y))",
		"[]":               "PList",
		"[x, (y : _)]":     "PList(PVar:x, POps(PVar:y, Op::, PAny))",
		"x@y":              "PAs:x(PVar:y)",
		"x @ C":            "PAs:x(PCon:C)",
		"x @ y @ (z : _)":  "PAs:x(PAs:y(POps(PVar:z, Op::, PAny)))",
		"~x":               "PLazy(PVar:x)",
		"~ (x, y)":         "PLazy(PTuple(PVar:x, PVar:y))",
		"~ ~ x @ ~ _":      "PLazy(PLazy(PAs:x(PLazy(PAny))))",
		"[ x @ _ , ~ [] ]": "PList(PAs:x(PAny), PLazy(PList))",
	}
	for text, tree := range atoms {
		rows[text] = tree
		wantTold(t, around{`x = \ `, ` -> y`, []int{0, 1, 0, 0}}, map[string]string{text: tree})
		wantTold(t, around{`f `, ` = y`, []int{0, 0}}, map[string]string{text: tree})
	}
	wantTold(t, alternative, rows)
	wantTold(t, generator, rows)
	wantTold(t, around{"x = do { ", " <- y ; z }", []int{0, 1, 0, 0, 0}}, rows)
	wantTold(t, around{"x = case y of { ", " | a -> z }", []int{0, 1, 0, 1, 0}}, rows)
}

// TestStatements: a statement's ways are a qualifier's (P6.1).
func TestStatements(t *testing.T) {
	for _, a := range []around{statement, qualifier} {
		wantTold(t, a, map[string]string{
			"x":                      "Stmt(Var:x)",
			"x + y":                  "Stmt(Ops(Var:x, Op:+, Var:y))",
			"x <- y":                 "Gen(PVar:x, Var:y)",
			"C x <- f y":             "Gen(PCon:C(PVar:x), App(Var:f, Var:y))",
			"let { x = 1 }":          "Lets(Where(Bind(PVar:x, Rhs(Int:1))))",
			"let { x = 1 } in x + 1": "Stmt(Let(Where(Bind(PVar:x, Rhs(Int:1))), Ops(Var:x, Op:+, Int:1)))",
			"- x":                    "Stmt(Neg(Var:x))",
			"[x | y]":                "Stmt(Comp(Var:x, Stmt(Var:y)))",
		})
	}
}
