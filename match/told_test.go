package match_test

import (
	"math/rand"
	"strconv"
	"testing"

	"thunkmill/api"
	"thunkmill/core"
	"thunkmill/match"
	"thunkmill/parse"
	"thunkmill/shape"
	"thunkmill/testkit"
)

func seeded(n int64) *rand.Rand { return rand.New(rand.NewSource(n)) }

// cons are the built-in constructors, and some of a program's own.
func cons() []api.Con {
	own := []api.Con{{Name: "A", Type: "Own"}, {Name: "B", Arity: 1, Type: "Own", Tag: 1}, {Name: "C", Arity: 3, Type: "Own", Tag: 2}, {Name: ":+", Arity: 2, Type: "Own", Tag: 3}}
	return append(shape.Builtin(), own...)
}

// pattern is what a text tells.
func pattern(t *testing.T, text string) api.Node {
	t.Helper()
	n, f := parse.Expr(`\ (` + text + `) -> 0`)
	if f != (api.Fault{}) || len(n.Kids) != 2 {
		t.Fatalf("%q is no pattern: %v", text, f)
	}
	return n.Kids[0]
}

func patterns(t *testing.T, texts ...string) []api.Node {
	t.Helper()
	var l []api.Node
	for _, text := range texts {
		l = append(l, pattern(t, text))
	}
	return l
}

// expr is an expression of the core as its chapter tells it, the variable failure being the failure.
func expr(t *testing.T, text string) api.Expr {
	t.Helper()
	e := testkit.Core(text)
	if e.Kind == 0 {
		t.Fatalf("%q is no expression", text)
	}
	return core.Subst(e, "failure", failure())
}

// failure is #error of a list of the characters of the text no match.
func failure() api.Expr {
	text := "(Nil)"
	for _, code := range []string{"104", "99", "116", "97", "109", "32", "111", "110"} {
		text = "(Cons '" + code + "' " + text + ")"
	}
	return testkit.Core("(#error " + text + ")")
}

func variable(name string) api.Expr { return api.Expr{Kind: api.ExVar, Name: name} }

func number(n int64) api.Expr { return api.Expr{Kind: api.ExInt, Num: n} }

func node(kind int, kids ...api.Node) api.Node { return api.Node{Kind: kind, Kids: kids} }

func named(kind int, name string, kids ...api.Node) api.Node {
	return api.Node{Kind: kind, Name: name, Kids: kids}
}

func anything() api.Node { return api.Node{Kind: api.NdPAny} }

// row is one of patterns and what comes, as texts.
func row(t *testing.T, comes string, pats ...string) api.Row {
	t.Helper()
	return api.Row{Pats: patterns(t, pats...), E: expr(t, comes)}
}

// numbered are so many names that begin alike.
func numbered(name string, n int) []string {
	var l []string
	for i := range n {
		l = append(l, name+strconv.Itoa(i))
	}
	return l
}

// many is one thing so many times.
func many[T any](n int, it T) []T {
	l := make([]T, n)
	for i := range l {
		l[i] = it
	}
	return l
}

// chain is an expression that is nested so deep, and has as many expressions: primitives of primitives.
func chain(deep int, last api.Expr) api.Expr {
	for range deep - 1 {
		last = api.Expr{Kind: api.ExPrim, Name: "ord", Args: []api.Expr{last}}
	}
	return last
}

// wide is an expression that has so many.
func wide(n int) api.Expr {
	return api.Expr{Kind: api.ExCon, Name: "Wide", Args: many(n-1, number(7))}
}

// checkSame asks for an expression up to names of bound variables.
func checkSame(t *testing.T, what string, got api.Expr, e api.Errno, want api.Expr) {
	t.Helper()
	if e != api.OK || !core.Same(got, want) {
		t.Errorf("%s: %s, %v, want %s", what, core.Text(got), e, core.Text(want))
	}
}

// checkError asks for an error, and for nothing beside it.
func checkError(t *testing.T, what string, got api.Expr, e, want api.Errno) {
	t.Helper()
	nothing := got.Kind == 0 && got.Name == "" && got.Num == 0 && got.Params == nil && got.Binds == nil && got.Args == nil && got.Alts == nil
	if e != want || want != api.OK && !nothing {
		t.Errorf("%s: %v (and something: %v), want %v", what, e, !nothing, want)
	}
}

// checkPattern asks for a pattern's text against w with ok and no being the variables x and n and what the texts tell.
func checkPattern(t *testing.T, p, ok, no, want string) {
	t.Helper()
	got, e := match.Pattern(cons(), pattern(t, p), "w", expr(t, ok), expr(t, no))
	checkSame(t, p, got, e, expr(t, want))
}

func checkPatternError(t *testing.T, what string, p api.Node, want api.Errno) {
	t.Helper()
	got, e := match.Pattern(cons(), p, "w", variable("ok"), variable("no"))
	checkError(t, what, got, e, want)
}

func checkRows(t *testing.T, what string, vars []string, l []api.Row, want string) {
	t.Helper()
	got, e := match.Rows(cons(), vars, l)
	checkSame(t, what, got, e, expr(t, want))
}

func checkRowsError(t *testing.T, what string, vars []string, l []api.Row, want api.Errno) {
	t.Helper()
	got, e := match.Rows(cons(), vars, l)
	checkError(t, what, got, e, want)
}

func checkFunctionError(t *testing.T, what string, l []api.Row, want api.Errno) {
	t.Helper()
	got, e := match.Function(cons(), l)
	checkError(t, what, got, e, want)
}
