package desugar_test

import (
	"math/rand"
	"slices"
	"strconv"
	"testing"

	"thunkmill/api"
	"thunkmill/core"
	"thunkmill/desugar"
	"thunkmill/parse"
	"thunkmill/shape"
	"thunkmill/syntax"
	"thunkmill/testkit"
)

func seeded(n int64) *rand.Rand { return rand.New(rand.NewSource(n)) }

// cons are the built-in constructors, and some of a program's own, as core asks for them.
func cons() []api.Con {
	own := []api.Con{{Name: "A", Type: "Own"}, {Name: "B", Arity: 1, Type: "Own", Tag: 1}, {Name: "C", Arity: 3, Type: "Own", Tag: 2}, {Name: ":+", Arity: 2, Type: "Own", Tag: 3}}
	return slices.Insert(shape.Builtin(), 4, own...)
}

// unknown are names of constructors that are none, as sections of expressions alone may have them.
func unknown() []string { return []string{"Zoe", ":~"} }

// lenient are the constructors with those that sections take as one without parts.
func lenient() []api.Con {
	l := cons()
	for i, name := range unknown() {
		l = slices.Insert(l, 4, api.Con{Name: name, Type: "None" + strconv.Itoa(i)})
	}
	return l
}

// tree is the expression that a text tells, its operators in order.
func tree(t *testing.T, text string) api.Node {
	t.Helper()
	n, f := parse.Expr(text)
	if f != (api.Fault{}) {
		t.Fatalf("%q is no expression: %v", text, f)
	}
	return n
}

// program is that which a text tells.
func program(t *testing.T, text string) api.Node {
	t.Helper()
	n, f := parse.Parse(text)
	if f != (api.Fault{}) {
		t.Fatalf("%q is no program: %v", text, f)
	}
	return n
}

// expr is an expression of the core as its chapter tells it, the variable failure being the failure.
func expr(t *testing.T, text string) api.Expr {
	t.Helper()
	e := testkit.Core(text)
	if e.Kind == 0 {
		t.Fatalf("%q is no expression of the core", text)
	}
	return core.Subst(e, "failure", failure())
}

// failure is #error of a list of the characters of the text no match.
func failure() api.Expr {
	text := "(Nil)"
	for _, code := range []string{"104", "99", "116", "97", "109", "32", "111", "110"} {
		text = "(Cons '" + code + "' " + text + ")"
	}
	return testkit.Core("(#error " + text + ")")
}

func variable(name string) api.Expr { return api.Expr{Kind: api.ExVar, Name: name} }

func number(n int64) api.Expr { return api.Expr{Kind: api.ExInt, Num: n} }

func node(kind int, kids ...api.Node) api.Node { return api.Node{Kind: kind, Kids: kids} }

func named(kind int, name string, kids ...api.Node) api.Node {
	return api.Node{Kind: kind, Name: name, Kids: kids}
}

// one is a number in a tree.
func one() api.Node { return api.Node{Kind: api.NdInt, Num: 1} }

func anything() api.Node { return api.Node{Kind: api.NdPAny} }

// is is a declaration: a name and an expression.
func is(name string, e api.Node) api.Node {
	return node(api.NdBind, named(api.NdPVar, name), node(api.NdRhs, e))
}

// many is one thing so many times.
func many[T any](n int, it T) []T {
	l := make([]T, n)
	for i := range l {
		l[i] = it
	}
	return l
}

// numbered are so many names that begin alike.
func numbered(name string, n int) []string {
	var l []string
	for i := range n {
		l = append(l, name+strconv.Itoa(i))
	}
	return l
}

// places are a tree's nodes.
func places(n *api.Node) []*api.Node {
	var l []*api.Node
	testkit.Each(n, func(n *api.Node) { l = append(l, n) })
	return l
}

func textOf(n api.Node) string {
	text, _ := syntax.Text(n)
	return text
}

// checkExpr asks for an expression up to names of bound variables, and whether it may be, its free names being bound.
func checkExpr(t *testing.T, n api.Node, want api.Expr) {
	t.Helper()
	got, f := desugar.Expr(n, cons())
	if f != (api.Fault{}) || !core.Same(got, want) {
		t.Errorf("%s: %s, %v, want %s", textOf(n), core.Text(got), f, core.Text(want))
	}
	if e := core.CheckExpr(api.Prog{Cons: lenient()}, got, core.Free(got)); e != api.OK {
		t.Errorf("%s: core says %v of %s", textOf(n), e, core.Text(got))
	}
}

// checkTexts asks for the expressions of texts.
func checkTexts(t *testing.T, l [][2]string) {
	t.Helper()
	for _, x := range l {
		checkExpr(t, tree(t, x[0]), expr(t, x[1]))
	}
}

// checkFault asks for a fault, and for nothing beside it.
func checkFault(t *testing.T, what string, n api.Node, of []api.Con, want api.Fault) {
	t.Helper()
	got, f := desugar.Expr(n, of)
	nothing := got.Kind == 0 && got.Name == "" && got.Num == 0 && got.Params == nil && got.Binds == nil && got.Args == nil && got.Alts == nil
	if f != want || want != (api.Fault{}) && !nothing {
		t.Errorf("%s: %v (and something: %v), want %v", what, f, !nothing, want)
	}
}

// checkProgramFault asks for a program's fault, and for nothing beside it.
func checkProgramFault(t *testing.T, what string, n api.Node, want api.Fault) {
	t.Helper()
	got, f := desugar.Program(n)
	nothing := got.Cons == nil && got.Binds == nil
	if f != want || want != (api.Fault{}) && !nothing {
		t.Errorf("%s: %v (and something: %v), want %v", what, f, !nothing, want)
	}
}

// checkProgram asks for a program's bindings: names and expressions by turns, in the order in which they must stand.
func checkProgram(t *testing.T, text string, want ...string) {
	t.Helper()
	n := program(t, text)
	got, f := desugar.Program(n)
	of, _ := shape.Cons(n)
	p := api.Prog{Cons: of}
	for i := 0; i < len(want); i += 2 {
		p.Binds = append(p.Binds, api.Bind{Name: want[i], E: expr(t, want[i+1])})
	}
	inOrder := slices.EqualFunc(got.Binds, p.Binds, func(a, b api.Bind) bool { return a.Name == b.Name })
	if f != (api.Fault{}) || !inOrder || !core.SameProg(got, p) {
		t.Errorf("%s: %s, %v, want %s", text, core.ProgText(got), f, core.ProgText(p))
	}
	if e := core.Check(got); e != api.OK {
		t.Errorf("%s: core says %v of %s", text, e, core.ProgText(got))
	}
}

// counted counts what tests have seen, so that none says something of nothing.
type counted map[string]int

func (c counted) least(t *testing.T, want map[string]int) {
	t.Helper()
	for what, n := range want {
		if c[what] < n {
			t.Errorf("%d times %s, want %d at least", c[what], what, n)
		}
	}
}
