package parse_test

import (
	"runtime/debug"
	"strings"
	"testing"

	"thunkmill/api"
	"thunkmill/fixity"
	"thunkmill/parse"
	"thunkmill/syntax"
)

// TestOrderOfFaults: of a wrong layout and a token that can't go on the first from the left is told (P6.1).
func TestOrderOfFaults(t *testing.T) {
	for _, read := range programReaders() {
		wantFaults(t, read, api.ErrSyntax, "x = §) }", "x §) }", "{ x = 1 } §x }", "{ x = §)", "{ §1 2 = 3", "x = case y of { §}", "x = §_ }", "§1 2 = }", "x = do { y <- z §} }", "{ x = do y <- z §} }", "{ x = do§", "{ x = case y of§")
		wantFaults(t, read, api.ErrLayout, "x = §} )", "x §} )", "{ x = 1 } §} x", "x = (1 §} )", "x = 1 + §} 2", "x = do y §} )", "x = (do y §} )", "1 2 §} = 3", "{ x = (1, 2§")
	}
	// A } of the text closes what is implied ahead of it, as far as that can be.
	wantFaults(t, parse.Raw, api.ErrSyntax, "{ x = (do y §}", "{ x = let y = 1 §}", "{ x = if do y §}", "{ x = (§}")
	wantFaults(t, parse.Raw, api.ErrLayout, "{ x = do y + §}", "{ x = do y <- §}", "{ x = let y §} in z", "{ x = case y of z -> §}", "{ x = case y of z §}", "{ x = z where f = §}")
}

// TestFixityFaults: operators that can't be brought in order, or are told of twice, by Parse; Raw tells the tree (P6.2).
func TestFixityFaults(t *testing.T) {
	fixities := lines(`
x = a == b §== c
x = 1 * §- 2
x = - 1 * §- 2
infixl 5 + ; infixr 5 * ; x = a + b §* c
infix 5 + ; x = a + b §+ c
infixl 5 :+ ; infixr 5 :* ; f (a :+ b §:* c) = 1
x = case y of { a : b :+ c -> 1 } where { z = a < b §< c }
x = [ y | z <- a == b §== c ] == d == e
`)
	scopes := lines(`
infixl 5 + ; infixr 6 §+
infixl 5 +, §+
infixr 5 * ; x = a == b == c ; infixl 1 +, §*, +
`)
	wantFaults(t, parse.Parse, api.ErrFixity, fixities...)
	wantFaults(t, parse.Parse, api.ErrScope, scopes...)
	for _, m := range append(fixities, scopes...) {
		text, _ := faulty(m)
		if n, f := parse.Raw(text); f != (api.Fault{}) || syntax.Check(n) != api.OK {
			t.Errorf("Raw of %q: %v", text, f)
		}
	}
	wantFaults(t, parse.Parse, api.ErrSyntax, "x = a == b == c ; y = §)", "infixl 5 +, + ; y = §)", "f (a §== b == c) = 1")
	wantFaults(t, parse.Expr, api.ErrFixity, "a == b §== c", "1 * §- 2", "f (a < b §> c)", "let infixl 4 == in a == b §== c", "a : b + c == d §/= e")
	if n, f := parse.Expr("let infixl 4 +, + in a + b"); f != (api.Fault{}) {
		t.Errorf("Expr of a let with an operator told of twice: %v %s", f, told(n))
	}
}

// TestParseIsAll: what Parse tells is what fixity.All tells of what Raw tells (P6.2).
func TestParseIsAll(t *testing.T) {
	for _, s := range []string{
		"", "x = 1", "x = 1 + 2 * 3 - 4", "infixr 1 + ; x = 1 + 2 * 3 + 4", "infixl 7 `f` ; x = a `f` b * c `g` d", "f (x : y : z) = - x * y + z",
		"infixl 5 :+ ; f (a :+ b :+ c) (x `C` y) = [ a : b ++ c | d <- e ++ f ]", "x = (1 + 2 +) where { infixr 3 + ; y = 1 + 2 + 3 }",
		"x = a == b == c", "infixl 1 +, +", "x = )", "x = \"", "}",
	} {
		raw, want := parse.Raw(s)
		var tree api.Node
		if want == (api.Fault{}) {
			tree, want = fixity.All(raw)
		}
		if n, f := parse.Parse(s); f != want || placed(n) != placed(tree) {
			t.Errorf("Parse of %q: %v %s, want %v %s", s, f, placed(n), want, placed(tree))
		}
	}
}

// TestExpr: one expression in a block of its own, its operators in order by the built-in table (P6.2).
func TestExpr(t *testing.T) {
	for s, want := range map[string]string{
		"x":                  "Var:x@0",
		"  x\n":              "Var:x@2",
		"{ x }":              "Var:x@2",
		"{\nx\n}\n":          "Var:x@2",
		"f\n x":              "App@0(Var:f@0, Var:x@3)",
		"1 + 2 * 3":          "App@0(Var:+@2, Int:1@0, App@4(Var:*@6, Int:2@4, Int:3@8))",
		"(x)":                "Paren@0(Var:x@1)",
		"- 1 + 2":            "App@0(Var:+@4, Neg@0(Int:1@2), Int:2@6)",
		"a `f` b + c":        "App@0(Var:+@8, App@0(Var:f@2, Var:a@0, Var:b@6), Var:c@10)",
		"do x":               "Do@0(Stmt@3(Var:x@3))",
		"{ do x }":           "Do@2(Stmt@5(Var:x@5))",
		"let y = 1 in y":     "Let@0(Where@4(Bind@4(PVar:y@4, Rhs@6(Int:1@8))), Var:y@13)",
		"let { } in x":       "Let@0(Where@4, Var:x@11)",
		"case x of (a) -> b": "Case@0(Var:x@5, Alt@10(PVar:a@11, Rhs@14(Var:b@17)))",
		`\ (a : b) -> a`:     `Lam@0(PCon::@3(PVar:a@3, PVar:b@7), Var:a@13)`,
	} {
		if n, f := parse.Expr(s); f != (api.Fault{}) || placed(n) != want {
			t.Errorf("Expr of %q: %v\ngot  %s\nwant %s", s, f, placed(n), want)
		}
	}
	wantFaults(t, parse.Expr, api.ErrSyntax,
		"§", " \n §", "{ §}", "§;", "§; x", "x §;", "x §; y", "{ x §; }", "{ §; x }", "x\n§y", " x\n§y", "{ x } §y", "{ x } §;", "x §= 1", "x §)", "§)", "§in", "§where", "x §where",
		"{ x §) }", "x §, y", "x §<- y", "x §| y", "§data T = C", "§infixl 1 +", "x §{ }")
}

// TestDeep: a tree may be MaxDeep deep; one that is deeper is told of behind all other faults (P6.1, P6.2).
func TestDeep(t *testing.T) {
	parens := func(n int) string { return strings.Repeat("(", n) + "x" + strings.Repeat(")", n) }
	tooDeep := api.Fault{Err: api.ErrLong}
	for _, row := range []struct {
		read reader
		fits string
		not  string
	}{
		{parse.Raw, "x = " + parens(252), "x = " + parens(253)},
		{parse.Parse, "x = " + parens(252), "x = " + parens(253)},
		{parse.Expr, parens(255), parens(256)},
		{parse.Raw, "x = " + strings.Repeat("[", 253) + strings.Repeat("]", 253), "x = " + strings.Repeat("[", 254) + strings.Repeat("]", 254)},
		{parse.Raw, "x = " + strings.Repeat("do ", 126) + "y", "x = " + strings.Repeat("do ", 127) + "y"},
		{parse.Raw, strings.Repeat("~ ", 253) + "x = 1", strings.Repeat("~ ", 254) + "x = 1"},
		{parse.Raw, strings.Repeat("x @ ", 253) + "x = 1", strings.Repeat("x @ ", 254) + "x = 1"},
		{parse.Expr, strings.Repeat("1 + ", 254) + "1", strings.Repeat("1 + ", 256) + "1"},
		{parse.Parse, "x = " + strings.Repeat("1 + ", 252) + "1", "x = " + strings.Repeat("1 + ", 254) + "1"},
	} {
		if _, f := row.read(row.fits); f != (api.Fault{}) {
			t.Errorf("%.20q of %d bytes: %v", row.fits, len(row.fits), f)
		}
		if n, f := row.read(row.not); f != tooDeep || n.Kind != 0 || len(n.Kids) > 0 {
			t.Errorf("%.20q of %d bytes: %v, want it to be too deep", row.not, len(row.not), f)
		}
	}
	deep := "x = " + parens(300)
	wantFaults(t, parse.Raw, api.ErrSyntax, deep+" §)", deep+"\ny = §_", deep+"\n§1 2 = 3", deep+" +§")
	wantFaults(t, parse.Raw, api.ErrLayout, deep+" §}")
	wantFaults(t, parse.Parse, api.ErrLong, "§"+deep+"\nz = a == b == c\ninfixl 1 +, +")
	wantFaults(t, parse.Expr, api.ErrLong, "§"+parens(300)+" + a == b == c")
	// Operators do not nest till they are brought in order; parentheses around a pattern never do.
	if _, f := parse.Raw("x = " + strings.Repeat("1 + ", 9999) + "1"); f != (api.Fault{}) {
		t.Errorf("Raw of a long row: %v", f)
	}
	for _, s := range []string{parens(9999) + " = 1", "f " + parens(9999) + " = 1", "x = \\ " + parens(9999) + " -> 1"} {
		if _, f := parse.Parse(s); f != (api.Fault{}) {
			t.Errorf("Parse of a pattern in parentheses: %v", f)
		}
	}
}

// TestLongTexts: the longest texts are read, in a stack that is not the greatest; no text is long enough for too many nodes (P6.1).
func TestLongTexts(t *testing.T) {
	defer debug.SetMaxStack(debug.SetMaxStack(256 << 20))
	for _, part := range []string{"(", "[", "~ ", "do ", "do{", "if ", "let x=", "case x of y|", "x@", "(+", "[x|let x=", "x where{x="} {
		s := "x=" + strings.Repeat(part, (api.MaxSource-2)/len(part))
		if _, f := parse.Raw(s); f.Err == api.OK || f.At < 0 || f.At > len(s) {
			t.Errorf("%q again and again: %v", part, f)
		}
	}
	for _, row := range []struct{ ahead, part, behind string }{
		{"", "x=(y);", ""}, {"x=[-y", ",-y", "]"}, {"x=do{y;", "-y;", "y}"}, {"x=[y|", "y,", "y]"}, {"x", "|y=[]", ""}, {"x=y", "+y", ""}, {"x=y", "(y)", ""}, {"f", " x", "=y"},
	} {
		s := row.ahead + strings.Repeat(row.part, (api.MaxSource-len(row.ahead)-len(row.behind))/len(row.part)) + row.behind
		n, f := parse.Raw(s)
		if f != (api.Fault{}) {
			t.Errorf("%q again and again: %v", row.part, f)
		}
		if nodes := count(n); nodes < api.MaxSource/3 || nodes > api.MaxNodes/8 {
			t.Errorf("%q again and again: %d nodes", row.part, nodes)
		}
	}
	deep := strings.Repeat("(", 32000) + "x" + strings.Repeat(")", 32000)
	wantFaults(t, parse.Raw, api.ErrLong, "§x="+deep)
	wantFaults(t, parse.Raw, api.ErrSyntax, "x="+deep+"§)")
	wantFaults(t, parse.Expr, api.ErrLong, "§"+deep)
}

func count(n api.Node) int {
	all := 1
	for _, k := range n.Kids {
		all += count(k)
	}
	return all
}
