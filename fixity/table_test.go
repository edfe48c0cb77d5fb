package fixity_test

import (
	"math"
	"slices"
	"strconv"
	"strings"
	"testing"

	"thunkmill/api"
	"thunkmill/fixity"
	"thunkmill/syntax"
)

func byName(l []api.Fixity) []api.Fixity {
	l = slices.Clone(l)
	slices.SortFunc(l, func(a, b api.Fixity) int { return strings.Compare(a.Name, b.Name) })
	return l
}

func TestBuiltin(t *testing.T) {
	if got := fixity.Builtin(); !slices.Equal(got, byName(builtin())) {
		t.Errorf("Builtin = %v, want %v", got, byName(builtin()))
	}
}

func TestBuiltinAnswersNewMemory(t *testing.T) {
	a, b := fixity.Builtin(), fixity.Builtin()
	for i := range a[:cap(a)] {
		a[:cap(a)][i] = api.Fixity{Name: "overwritten", Side: 9, Level: 9}
	}
	if c := fixity.Builtin(); !slices.Equal(b, byName(builtin())) || !slices.Equal(c, b) {
		t.Errorf("an answer heeds another one: %v, %v", b, c)
	}
}

func TestOf(t *testing.T) {
	for _, f := range builtin() {
		if got := fixity.Of(fixity.Builtin(), f.Name); got != f {
			t.Errorf("Of(%s) = %v, want %v", f.Name, got, f)
		}
	}
	twice := holds("+ none 0 * left 3 + right 9 * right 4 + left 6")
	odd := []api.Fixity{{Name: "a", Side: 0, Level: -1}, {Name: "", Side: math.MinInt, Level: math.MaxInt}, {Name: "a", Side: 1, Level: 1}}
	rows := []struct {
		l    []api.Fixity
		name string
		want api.Fixity
	}{
		{nil, "+", api.Fixity{Name: "+", Side: api.SideLeft, Level: 9}},
		{[]api.Fixity{}, "$", api.Fixity{Name: "$", Side: api.SideLeft, Level: 9}},
		{fixity.Builtin(), "zoe", api.Fixity{Name: "zoe", Side: api.SideLeft, Level: 9}},
		{fixity.Builtin(), "", api.Fixity{Side: api.SideLeft, Level: 9}},
		{fixity.Builtin(), "=", api.Fixity{Name: "=", Side: api.SideLeft, Level: 9}},
		{fixity.Builtin(), "Div", api.Fixity{Name: "Div", Side: api.SideLeft, Level: 9}},
		{fixity.Builtin(), "+ ", api.Fixity{Name: "+ ", Side: api.SideLeft, Level: 9}},
		{fixity.Builtin(), "\xff", api.Fixity{Name: "\xff", Side: api.SideLeft, Level: 9}},
		{twice, "+", api.Fixity{Name: "+", Side: api.SideNone, Level: 0}},
		{twice, "*", api.Fixity{Name: "*", Side: api.SideLeft, Level: 3}},
		{twice[1:], "+", api.Fixity{Name: "+", Side: api.SideRight, Level: 9}},
		{twice[:1], "*", api.Fixity{Name: "*", Side: api.SideLeft, Level: 9}}, // spare room is no part of a list
		{odd, "a", odd[0]},
		{odd, "", odd[1]},
		{odd, "b", api.Fixity{Name: "b", Side: api.SideLeft, Level: 9}},
	}
	for _, r := range rows {
		before := slices.Clone(r.l)
		if got := fixity.Of(r.l, r.name); got != r.want || !slices.Equal(r.l, before) {
			t.Errorf("Of(%v, %q) = %v, want %v", r.l, r.name, got, r.want)
		}
	}
}

// declares is an NdFixity, whose operators have the places from at on.
func declares(at int, side string, level int64, names ...string) api.Node {
	n := api.Node{Kind: api.NdFixity, Name: side, Num: level, At: at - 1}
	for i, s := range names {
		n.Kids = append(n.Kids, api.Node{Kind: api.NdOp, Name: s, At: at + i})
	}
	return n
}

func program(kids ...api.Node) api.Node { return api.Node{Kind: api.NdProgram, Kids: kids, At: 3} }

func right(kids ...api.Node) api.Node { return api.Node{Kind: api.NdRhs, Kids: kids} }

// bind is the declaration x = e, where .. .
func bind(e api.Node, inner ...api.Node) api.Node {
	x, where := api.Node{Kind: api.NdPVar, Name: "x"}, api.Node{Kind: api.NdWhere, Kids: inner}
	return api.Node{Kind: api.NdBind, Kids: []api.Node{x, right(e, where)}}
}

// with is the built-in table in which some entries took the place of those of their names.
func with(l []api.Fixity) []api.Fixity {
	all := slices.Clone(l)
	for _, f := range builtin() {
		if !slices.ContainsFunc(l, func(g api.Fixity) bool { return g.Name == f.Name }) {
			all = append(all, f)
		}
	}
	return byName(all)
}

func TestTable(t *testing.T) {
	data := api.Node{Kind: api.NdData, Name: "T", Kids: []api.Node{{Kind: api.NdConDef, Name: "C"}}}
	one := api.Node{Kind: api.NdInt, Num: 1}
	rows := []struct {
		what string
		n    api.Node
		want []api.Fixity
	}{
		{"nothing", program(), nil},
		{"no fixity", program(data, bind(one)), nil},
		{"a new one", program(declares(5, "infixr", 4, "<+>")), holds("<+> right 4")},
		{"a name, a constructor, a constructor's operator", program(declares(5, "infix", 0, "f", "Cons", ":+")), holds("f none 0 Cons none 0 :+ none 0")},
		{"in each of its ways", program(declares(5, "infixl", 1, "a"), declares(6, "infixr", 2, "b"), declares(7, "infix", 3, "c")), holds("a left 1 b right 2 c none 3")},
		{"levels 0 and 9", program(declares(5, "infixl", 0, "a"), declares(6, "infixr", 9, "b")), holds("a left 0 b right 9")},
		{"a built-in one", program(declares(5, "infixr", 2, "+")), holds("+ right 2")},
		{"built-in ones, first and last", program(declares(5, "infix", 9, "||", "$")), holds("|| none 9 $ none 9")},
		{"a built-in one as it was", program(declares(5, "infixl", 6, "+")), nil},
		{"the -", program(declares(5, "infix", 1, "-")), holds("- none 1")},
		{"a built-in name", program(declares(5, "infixr", 3, "div")), holds("div right 3")},
		{"not in their order", program(declares(5, "infixl", 1, "z", "%", "a'"), declares(9, "infixl", 2, "_a", "Z", "a", "::", "~~")), holds("z left 1 % left 1 a' left 1 _a left 2 Z left 2 a left 2 :: left 2 ~~ left 2")},
		{"among other declarations", program(bind(one), declares(5, "infixl", 1, "%"), data, declares(6, "infixl", 2, "#"), bind(one)), holds("% left 1 # left 2")},
		{"inner declarations", program(bind(one, declares(5, "infixl", 1, "%", "+", "%"), declares(9, "infixl", 2, "+"))), nil},
		{"inner ones that tell of what is told outside", program(declares(5, "infixr", 7, "%"), bind(one, declares(9, "infixl", 1, "%", "+"))), holds("% right 7")},
	}
	for _, r := range rows {
		got, f := fixity.Table(r.n)
		if f != (api.Fault{}) || !slices.Equal(got, with(r.want)) {
			t.Errorf("%s: %v, %v, want %v", r.what, got, f, with(r.want))
		}
	}
}

func TestTableOfEachSideAndLevel(t *testing.T) {
	for side, word := range []string{"infixl", "infixr", "infix"} {
		for level := range 10 {
			for _, name := range []string{"%", "+", "f", ":"} {
				got, f := fixity.Table(program(declares(5, word, int64(level), name)))
				want := with([]api.Fixity{{Name: name, Side: side + 1, Level: level}})
				if f != (api.Fault{}) || !slices.Equal(got, want) {
					t.Errorf("%s %d %s: %v, %v", word, level, name, got, f)
				}
			}
		}
	}
}

func checkTableFault(t *testing.T, what string, n api.Node, want api.Fault) {
	t.Helper()
	if got, f := fixity.Table(n); f != want || len(got) > 0 {
		t.Errorf("%s: Table = %v, %v, want %v", what, got, f, want)
	}
	got, f := fixity.All(n)
	checkFault(t, what+": All", got, f, want)
}

func TestTableOfWhatIsToldTwice(t *testing.T) {
	clash := bind(expression("a == b == c"))
	rows := []struct {
		what string
		at   int
		n    api.Node
	}{
		{"within one", 6, program(declares(5, "infixl", 1, "%", "%"))},
		{"within one, others between", 8, program(declares(5, "infixl", 1, "%", "#", "f", "%", "#"))},
		{"in two", 9, program(declares(5, "infixl", 1, "%"), declares(9, "infixr", 2, "%"))},
		{"in two, as it was told", 9, program(declares(5, "infixl", 1, "%"), declares(9, "infixl", 1, "%"))},
		{"in two, others between", 30, program(declares(5, "infixl", 1, "%", "#"), bind(expression("a")), declares(20, "infixr", 2, "+"), declares(29, "infix", 2, "f", "#"))},
		{"the first of two faults", 9, program(declares(5, "infixl", 1, "%", "#"), declares(9, "infixr", 2, "#", "%"))},
		{"a name", 6, program(declares(5, "infixl", 1, "f", "f"))},
		{"a built-in one, told anew twice", 9, program(declares(5, "infixl", 1, "+"), declares(9, "infixl", 1, "+"))},
		{"a place ahead of the first one's", 2, program(declares(50, "infixl", 1, "%"), declares(2, "infixl", 1, "%"))},
		{"a place below 0", -7, program(declares(5, "infixl", 1, "%"), declares(-7, "infixl", 1, "%"))},
		{"ahead of what can't be", 9, program(clash, declares(5, "infixl", 1, "%"), declares(9, "infixl", 1, "%"))},
	}
	for _, r := range rows {
		checkTableFault(t, r.what, r.n, api.Fault{Err: api.ErrScope, At: r.at})
	}
}

// A node of each kind that is no program, an error of the tree itself, and both at once.
func TestTableOfWrongNodes(t *testing.T) {
	twice := declares(5, "infixl", 1, "%", "%")
	wrong := []api.Node{
		{}, {Kind: -1, At: 4}, {Kind: 45}, bind(expression("a")), right(expression("a")), twice,
		{Kind: api.NdWhere, Kids: []api.Node{twice}}, {Kind: api.NdOp, Name: "+", At: 8}, expression("a"), expression("( a )"), expression("a + b"), pattern("a"), pattern("a : b"),
		{Kind: api.NdProgram, Name: "p"}, {Kind: api.NdProgram, Num: 1}, program(expression("a")), program(program()), program(twice, expression("a")),
		program(declares(5, "infixl", 10, "%", "%")), program(declares(5, "infixl", -1, "%")), program(declares(5, "infixx", 1, "%")), program(declares(5, "infixl", 1)), program(declares(5, "infixl", 1, "=")), program(declares(5, "infixl", 1, "let")),
		program(twice, bind(api.Node{Kind: api.NdVar, Name: "let"})),
	}
	for _, n := range wrong {
		checkTableFault(t, told(n), n, api.Fault{Err: api.ErrArg})
	}
	long := []api.Node{nested(257), program(bind(nested(254))), program(twice, bind(nested(254))), program(api.Node{}, bind(nested(254))), many(1 << 20)}
	for i, n := range long {
		checkTableFault(t, "long "+strconv.Itoa(i), n, api.Fault{Err: api.ErrLong})
	}
	checkTableFault(t, "256 deep, no program", nested(256), api.Fault{Err: api.ErrArg})
	n := program(bind(nested(253)))
	if l, f := fixity.Table(n); syntax.Check(n) != api.OK || f != (api.Fault{}) || !slices.Equal(l, with(nil)) {
		t.Errorf("256 deep: %v, %v", l, f)
	}
}

// nested is a tree that is so deep, in parentheses around an x.
func nested(deep int) api.Node {
	n := api.Node{Kind: api.NdVar, Name: "x"}
	for range deep - 1 {
		n = api.Node{Kind: api.NdParen, Kids: []api.Node{n}}
	}
	return n
}

// many is a program of so many declarations.
func many(n int) api.Node {
	return program(slices.Repeat([]api.Node{declares(5, "infixl", 1, "%")}, n)...)
}

// A great many operators, each told of once.
func TestTableOfManyOperators(t *testing.T) {
	n := program()
	want := builtin()
	for i := range 300000 {
		name := "f" + strconv.Itoa(i)
		n.Kids = append(n.Kids, declares(5, "infixr", 2, name))
		want = append(want, api.Fixity{Name: name, Side: api.SideRight, Level: 2})
	}
	got, f := fixity.Table(n)
	if f != (api.Fault{}) || !slices.Equal(got, byName(want)) {
		t.Errorf("%d entries, %v", len(got), f)
	}
}
