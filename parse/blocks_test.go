package parse_test

import (
	"testing"

	"thunkmill/api"
	"thunkmill/parse"
)

// alike are texts that have the same tree.
type alike struct {
	tree  string
	texts []string
}

func wantAlike(t *testing.T, rows []alike) {
	t.Helper()
	for _, r := range rows {
		for _, s := range r.texts {
			wantTold(t, wholeProgram, map[string]string{s: r.tree})
		}
	}
}

// TestBlocks: blocks are implied, or in braces, and what is nothing in them is none of their things (P6.1).
func TestBlocks(t *testing.T) {
	wantAlike(t, []alike{
		{"Program", []string{"", " \n\t", "-- a", "{}", "{ }", "{ ; }", "{;;;}", ";", ";;\n;", "{\n}\n", "{- a -}"}},
		{"Program(Bind(PVar:x, Rhs(Int:1)))", []string{
			"x = 1", "  x = 1\n", "x\n =\n 1", "{ x = 1 }", "{ x = 1 ; }", "{ ; x = 1 }", "{ ; ; x = 1 ; ; }",
			"x = 1;", ";x = 1", ";;x = 1;;", "{ x\n=\n1\n}",
		}},
		{"Program(Bind(PVar:x, Rhs(Int:1)), Bind(PVar:y, Rhs(Int:2)))", []string{
			"x = 1\ny = 2", "x = 1 ; y = 2", " x = 1\n y = 2", "x = 1\n\n\ny\n = 2 ;\n;", "{ x = 1 ; y = 2 }", "{x=1;;y=2}",
			"{\n x = 1\n;y\n= 2\n}",
		}},
		{"Program(Bind(PVar:x, Rhs(Do(Stmt(Var:a), Stmt(Var:b)))))", []string{
			"x = do a ; b", "x = do a\n       b", "x = do\n  a\n  b", "x = do\n  a\n\n  b\n", "x = do\n a ;\n b", "x = do { a ; b }",
			"x = do {\na;\nb}", "{ x = do a ; b }", "{ x = do { a ; b } }", "{ x = do { ; a ; ; b ; } ; }", "x = do\n  ; a\n  ;; b",
			"{ x = do\n a\n b }", "x\n = do { a\n ; b\n }",
		}},
		{"Program(Bind(PVar:x, Rhs(Case(Var:a, Alt(PVar:b, Rhs(Var:c)), Alt(PAny, Rhs(Var:d))))))", []string{
			"x = case a of b -> c ; _ -> d", "x = case a of\n  b -> c\n  _ -> d", "x = case a of { b -> c ; _ -> d }",
			"x = case a of b -> c\n              _ -> d", "x = case a of\n b\n  -> c\n _\n  ->\n   d", "{x = case a of b -> c ;\n                 _ -> d}",
			"x = case a of { ; b -> c ; ; _ -> d ; ; }",
		}},
		{"Program(Bind(PVar:x, Rhs(Var:a, Where(Bind(PVar:a, Rhs(Int:1)), Bind(PVar:b, Rhs(Int:2))))), Bind(PVar:y, Rhs(Int:3)))", []string{
			"x = a where a = 1 ; b = 2\ny = 3", "x = a where\n  a = 1\n  b = 2\ny = 3", "x = a\n where a = 1\n       b = 2\ny = 3",
			"x = a where { a = 1 ; b = 2 } ; y = 3", "{ x = a where { a = 1 ; b = 2 } ; y = 3 }",
		}},
		{"Program(Bind(PVar:x, Rhs(Var:a, Where)), Bind(PVar:y, Rhs(Int:3)))", []string{
			"x = a where\ny = 3", "x = a where { }\ny = 3", "x = a where {;;} ; y = 3", "x = a where\n\n\ny = 3",
		}},
		{"Program(Bind(PVar:x, Rhs(Do(Stmt(Var:a)), Where(Bind(PVar:b, Rhs(Int:1))))))", []string{
			"x = do a where b = 1", "x = do\n  a\n  where b = 1", "x = do\n   a\n where b = 1", "x = do { a } where { b = 1 }", "x = do a ; where b = 1",
		}},
		{"Program(Bind(PVar:x, Rhs(Case(Var:a, Alt(PVar:b, Rhs(Var:c, Where(Bind(PVar:d, Rhs(Int:1)))))))))", []string{
			"x = case a of b -> c where d = 1", "x = case a of\n  b -> c\n   where d = 1", "x = case a of { b -> c where d = 1 }",
		}},
		{"Program(Bind(PVar:x, Rhs(Case(Var:a, Alt(PVar:b, Rhs(Var:c))), Where(Bind(PVar:d, Rhs(Int:1))))))", []string{
			"x = case a of\n  b -> c\n where d = 1", "x = case a of\n  b -> c\n  where d = 1", "x = case a of { b -> c } where d = 1",
		}},
	})
}

// TestClosing: an implied block is closed ahead of what can't go on with it (P6.1).
func TestClosing(t *testing.T) {
	one := "Where(Bind(PVar:a, Rhs(Int:1)))"
	wantTold(t, rightSide, map[string]string{
		"let a = 1 in a":                   "Let(" + one + ", Var:a)",
		"let a = 1\n in a":                 "Let(" + one + ", Var:a)",
		"let a = 1 ; in a":                 "Let(" + one + ", Var:a)",
		"let\n  a = 1\n  in a":             "Let(" + one + ", Var:a)",
		"let in a":                         "Let(Where, Var:a)",
		"let ; in a":                       "Let(Where, Var:a)",
		"let a = do b in c":                "Let(Where(Bind(PVar:a, Rhs(Do(Stmt(Var:b))))), Var:c)",
		"let a = let b = c in d in e":      "Let(Where(Bind(PVar:a, Rhs(Let(Where(Bind(PVar:b, Rhs(Var:c))), Var:d)))), Var:e)",
		"let a = case b of c -> do d in e": "Let(Where(Bind(PVar:a, Rhs(Case(Var:b, Alt(PVar:c, Rhs(Do(Stmt(Var:d)))))))), Var:e)",
		"(do a)":                           "Paren(Do(Stmt(Var:a)))",
		"(do a ; )":                        "Paren(Do(Stmt(Var:a)))",
		"(do a, do b)":                     "Tuple(Do(Stmt(Var:a)), Do(Stmt(Var:b)))",
		"[do a]":                           "List(Do(Stmt(Var:a)))",
		"[do a, do b ; c]":                 "List(Do(Stmt(Var:a)), Do(Stmt(Var:b), Stmt(Var:c)))",
		"[do a | do b, c]":                 "Comp(Do(Stmt(Var:a)), Stmt(Do(Stmt(Var:b))), Stmt(Var:c))",
		"[case a of b -> c | d]":           "Comp(Case(Var:a, Alt(PVar:b, Rhs(Var:c))), Stmt(Var:d))",
		"[a | let b = 1, let c = 2]":       "Comp(Var:a, Lets(Where(Bind(PVar:b, Rhs(Int:1)))), Lets(Where(Bind(PVar:c, Rhs(Int:2)))))",
		"if do a then do b else do c":      "If(Do(Stmt(Var:a)), Do(Stmt(Var:b)), Do(Stmt(Var:c)))",
		"if do a ; then do b ; else do c":  "If(Do(Stmt(Var:a)), Do(Stmt(Var:b)), Do(Stmt(Var:c)))",
		"case do a of b -> c":              "Case(Do(Stmt(Var:a)), Alt(PVar:b, Rhs(Var:c)))",
		"do { do a }":                      "Do(Stmt(Do(Stmt(Var:a))))",
		"do { case a of b -> c }":          "Do(Stmt(Case(Var:a, Alt(PVar:b, Rhs(Var:c)))))",
		"do { case a of b -> do c }":       "Do(Stmt(Case(Var:a, Alt(PVar:b, Rhs(Do(Stmt(Var:c)))))))",
		"(case a of b | c -> d | e -> f)":  "Paren(Case(Var:a, Alt(PVar:b, Rhs(Guard(Var:c, Var:d), Guard(Var:e, Var:f)))))",
		"(case a of b -> c where b = 1)":   "Paren(Case(Var:a, Alt(PVar:b, Rhs(Var:c, Where(Bind(PVar:b, Rhs(Int:1)))))))",
		"((do a))":                         "Paren(Paren(Do(Stmt(Var:a))))",
		"(do (do a) ; b)":                  "Paren(Do(Stmt(Paren(Do(Stmt(Var:a)))), Stmt(Var:b)))",
		"do let a = 1 in a":                "Do(Stmt(Let(" + one + ", Var:a)))",
		"do a\n + b":                       "Ops(Do(Stmt(Var:a)), Op:+, Var:b)",
	})
	wantTold(t, wholeProgram, map[string]string{
		"x | do a = b":                          "Program(Bind(PVar:x, Rhs(Guard(Do(Stmt(Var:a)), Var:b))))",
		"x | do a = do b | do c = do d":         "Program(Bind(PVar:x, Rhs(Guard(Do(Stmt(Var:a)), Do(Stmt(Var:b))), Guard(Do(Stmt(Var:c)), Do(Stmt(Var:d))))))",
		"x = case a of b | do c -> do d":        "Program(Bind(PVar:x, Rhs(Case(Var:a, Alt(PVar:b, Rhs(Guard(Do(Stmt(Var:c)), Do(Stmt(Var:d)))))))))",
		"{ x = y where data T = C a }":          "Program(Bind(PVar:x, Rhs(Var:y, Where(Data:T(ConDef:C:1)))))",
		"{ x = y where infixl 1 +, * ; z = 1 }": "Program(Bind(PVar:x, Rhs(Var:y, Where(Fixity:infixl:1(Op:+, Op:*), Bind(PVar:z, Rhs(Int:1))))))",
		"x = do let a = 1\n       b":            "Program(Bind(PVar:x, Rhs(Do(Lets(Where(Bind(PVar:a, Rhs(Int:1)))), Stmt(Var:b)))))",
		"x = do let\n         a = 1\n       b":  "Program(Bind(PVar:x, Rhs(Do(Lets(Where(Bind(PVar:a, Rhs(Int:1)))), Stmt(Var:b)))))",
	})
}

// TestIfInBlocks: a semicolon may stand ahead of then and of else (P6.1).
func TestIfInBlocks(t *testing.T) {
	wantAlike(t, []alike{
		{"Program(Bind(PVar:x, Rhs(Do(Stmt(If(Var:a, Var:b, Var:c)), Stmt(Var:d)))))", []string{
			"x = do\n  if a then b else c\n  d", "x = do\n  if a\n  then b\n  else c\n  d", "x = do\n  if a\n    then b\n    else c\n  d",
			"x = do { if a ; then b ; else c ; d }", "x = do { if a then b ; else c ; d }", "x = do { if a ; then b else c ; d }",
			"x = do if a ; then b ; else c ; d",
		}},
		{"Program(Bind(PVar:x, Rhs(If(Var:a, Var:b, Var:c))))", []string{
			"x = if a then b else c", "x = if a\nthen b\nelse c", "{ x = if a ; then b ; else c }", "x = if a ; then b ; else c",
		}},
	})
	wantFaults(t, parse.Raw, api.ErrSyntax,
		"x = if a ; §; then b else c", "x = if a then b ; §; else c", "x = if a ; §b", "x = if a then b ; §c", "x = if a then b§",
		"x = if §; a then b else c", "x = if a then §; b else c", "x = if a ; then §; b else c", "x = if a then b else §; c",
		"x = if a\n\n§b = 1", "x = if a §else b")
}
