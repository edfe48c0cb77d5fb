package scope_test

import (
	"math"
	"slices"
	"strings"
	"testing"

	"thunkmill/api"
	"thunkmill/scope"
	"thunkmill/testkit"
)

// P10.1: what lists of declarations define, wherever they stand.
func TestDefines(t *testing.T) {
	for _, r := range []struct{ text, want string }{
		{"", ""}, {"x = 1", "x"}, {"f 1 = 2", "f"}, {"f x = y", "f"}, {"x = 1 ; y = 2", "x y"}, {"y = 1 ; x = 2", "y x"},
		{"f 1 = 2 ; f 2 = 3", "f"}, {"f 1 = 2 ; f 2 = 3 ; f x = 4", "f"}, {"f 1 = 2 ; g 1 = 2 ; f 1 = 3", "f g f"}, {"f 1 = 2 ; f 2 = 2 ; g 1 = 2 ; g 2 = 3 ; f 1 = 3 ; f 2 = 3", "f g f"}, {"f 1 = 2 ; f 1 2 = 3", "f"}, {"f 1 = 2 ; x = 1 ; f 1 = 3", "f x f"},
		{"f = 1 ; f = 2", "f f"}, {"f = 1 ; f 1 = 2", "f f"}, {"f 1 = 2 ; f = 1 ; f 2 = 3", "f f f"}, {"f 1 = 2 ; f 2 = 2 ; f = 1", "f f"}, {"f 1 = 2 ; f' 1 = 3", "f f'"},
		{"f 1 = 2 ; infixl 3 + ; f 2 = 3", "f f"}, {"f 1 = 2 ; data T = A x ; f 2 = 3", "f f"}, {"data T = A x | B ; infixr 3 +, `f`", ""}, {"f 1 = 2 ; _ = 1 ; f 2 = 3", "f f"},
		{"x + y = 1 ; x + z = 2 ; x * y = 3", "+ *"}, {"x `f` y = 1 ; f x y = 2", "f"}, {"(+) x = 1", "+"},
		{"(a, b) = 1", "a b"}, {"(b, a) = 1", "b a"}, {"[x, _, y@(z : u)] = 1", "x y z u"}, {"(x, x) = 1", "x x"}, {"x@x = 1", "x x"}, {"~(x, 1, 'a', \"u\") = 1", "x"}, {"_ = 1", ""}, {"1 = 2", ""}, {"[] = 2", ""}, {"Cons a (Tup2 c b) = 1", "a c b"}, {"(a, b) = 1 ; (b, c) = 1", "a b b c"},
		{"f x = y where { z = 1 }", "f"}, {"x = \\ y -> let { z = 1 } in [ u | u <- 1 ]", "x"}, {"(x, y) = case 1 of { z -> z }", "x y"},
		{"f 0 = 1 ; f n = 2 ; (a, b@c) = 3", "f a b c"},
	} {
		checkNames(t, r.text, scope.Defines(parsed(t, r.text).Kids), r.want)
		inner := parsed(t, "q = 1 where { "+r.text+" }").Kids[0].Kids[1].Kids[1]
		if inner.Kind != api.NdWhere {
			t.Fatalf("no NdWhere: %v", inner)
		}
		checkNames(t, "where "+r.text, scope.Defines(inner.Kids), r.want)
	}
	raw := rows(t, "(x : y : z) = 1 ; x :+ y = 2 ; x + y = 3")
	checkNames(t, "rows", scope.Defines(raw.Kids), "x y z x y +")
}

// P10.1: what nodes that may not be define.
func TestDefinesOfWhatMayNotBe(t *testing.T) {
	x, y := named(api.NdPVar, "x"), named(api.NdPVar, "y")
	for _, r := range []struct {
		decls []api.Node
		want  string
	}{
		{nil, ""}, {[]api.Node{}, ""}, {[]api.Node{{}}, ""},
		{[]api.Node{named(api.NdEqn, "f")}, "f"}, {[]api.Node{named(api.NdEqn, "F", x)}, "F"}, {[]api.Node{named(api.NdEqn, "f", x, y)}, "f"}, {[]api.Node{named(api.NdEqn, "f"), named(api.NdEqn, "f", x)}, "f"}, {[]api.Node{named(api.NdEqn, "f"), {}, named(api.NdEqn, "f")}, "f f"},
		{[]api.Node{node(api.NdBind)}, ""}, {[]api.Node{node(api.NdBind, x)}, "x"}, {[]api.Node{node(api.NdBind, x, y)}, "x"}, {[]api.Node{node(api.NdBind, node(api.NdPList, x, y), y, x)}, "x y"}, {[]api.Node{named(api.NdBind, "f", x)}, "x"}, {[]api.Node{named(api.NdBind, "f", x), named(api.NdEqn, "f")}, "x f"}, {[]api.Node{variable("f"), named(api.NdEqn, "f")}, "f"}, {[]api.Node{node(api.NdBind, number(), x)}, ""}, {[]api.Node{node(api.NdBind), named(api.NdEqn, "f"), node(api.NdBind)}, "f"},
		{[]api.Node{x, y}, ""}, {[]api.Node{node(api.NdWhere, bind("x", number()))}, ""}, {[]api.Node{node(api.NdProgram, bind("x", number()))}, ""}, {[]api.Node{node(api.NdLets, node(api.NdWhere, bind("x", number())))}, ""}, {[]api.Node{variable("x"), node(api.NdLam, x, variable("x"))}, ""},
		{[]api.Node{named(api.NdData, "T", named(api.NdConDef, "A", x)), named(api.NdFixity, "infixl", x)}, ""}, {[]api.Node{named(-1, "f"), named(math.MaxInt, "f", x), named(45, "f")}, ""},
	} {
		checkNames(t, "what may not be", scope.Defines(r.decls), r.want)
	}
	if l := scope.Defines([]api.Node{named(api.NdEqn, "")}); !slices.Equal(l, []string{""}) {
		t.Errorf("an equation without a name: %q", l)
	}
}

// P10.1: the names of patterns from the left.
func TestNames(t *testing.T) {
	for _, r := range []struct{ pats, want string }{
		{"x", "x"}, {"x y", "x y"}, {"y x", "y x"}, {"x x", "x x"}, {"_", ""}, {"1 'a' \"x\" [] ()", ""}, {"(x, y)", "x y"}, {"(u, z, y, x)", "u z y x"}, {"[z, x, y]", "z x y"}, {"(x@y)", "x y"}, {"(y@(z@x))", "y z x"}, {"(x@(y, z)) u", "x y z u"}, {"(~x) ~(y, z)", "x y z"}, {"(x : y : z)", "x y z"}, {"(Cons x (Cons y Nil))", "x y"}, {"((x))", "x"}, {"(x@[y, ~(z@_), (u, _)]) x", "x y z u x"}, {"x (A B C) (D x)", "x x"},
	} {
		of := parsed(t, "f "+r.pats+" = 1").Kids[0].Kids
		checkNames(t, r.pats, scope.Names(of[:len(of)-1]), r.want)
		of = rows(t, "f "+r.pats+" = 1").Kids[0].Kids
		checkNames(t, "rows of "+r.pats, scope.Names(of[:len(of)-1]), r.want)
	}
	checkNames(t, "nothing", scope.Names(nil), "")
	checkNames(t, "an empty list", scope.Names([]api.Node{}), "")
}

// P10.1: the names of each kind of node, one of its kids having some.
func TestNamesOfEachKind(t *testing.T) {
	x, y := named(api.NdPVar, "x"), named(api.NdPAs, "y", named(api.NdPVar, "z"))
	for _, kind := range testkit.Patterns() {
		want := "x y z"
		if kind == api.NdPVar || kind == api.NdPAs {
			want = "u x y z"
		}
		checkNames(t, "a kind of pattern", scope.Names([]api.Node{named(kind, "u", x, y)}), want)
	}
	for _, kind := range append(testkit.Expressions(), testkit.Declarations()...) {
		checkNames(t, "a kind that is no pattern", scope.Names([]api.Node{named(kind, "u")}), "")
	}
	checkNames(t, "NdOp", scope.Names([]api.Node{node(api.NdPOps, x, named(api.NdOp, "op"), y)}), "x y z")
}

// P10.1: as deep as parts may be nested, and of a list that is its own part something that has an end.
func TestDeepNames(t *testing.T) {
	for _, deep := range []int{1, 255, 256, 257, 5000, 1<<16 - 1} {
		p := lazily(named(api.NdPVar, "x"), deep)
		checkNames(t, "a deep pattern", scope.Names([]api.Node{p, p}), "x x")
		checkNames(t, "a deep binding", scope.Defines([]api.Node{node(api.NdBind, p)}), "x")
	}
	self := []api.Node{named(api.NdPAs, "x")}
	self[0].Kids = self
	for _, name := range append(scope.Names(self), scope.Defines([]api.Node{node(api.NdBind, self...)})...) {
		if name != "x" {
			t.Fatalf("a name %q", name)
		}
	}
}

// P10.1: many names.
func TestManyNames(t *testing.T) {
	names := slices.Repeat([]string{"a", "c", "b"}, 30000)
	var pats, decls []api.Node
	for i, name := range names {
		pats = append(pats, named(api.NdPVar, name))
		decls = append(decls, named(api.NdEqn, name), named(api.NdEqn, name))
		if i%2 == 0 {
			decls[2*i], decls[2*i+1] = node(api.NdBind, pats[i]), api.Node{}
		}
	}
	all := strings.Join(names, " ")
	checkNames(t, "many patterns", scope.Names(pats), all)
	checkNames(t, "a wide pattern", scope.Names([]api.Node{node(api.NdPList, pats...)}), all)
	checkNames(t, "many declarations", scope.Defines(decls), all)
}
