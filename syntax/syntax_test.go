package syntax_test

import (
	"math"
	"reflect"
	"slices"
	"testing"

	"thunkmill/api"
	"thunkmill/syntax"
	"thunkmill/testkit"
)

func TestSame(t *testing.T) {
	all := samples()
	for i, a := range all {
		for j, b := range all {
			if got := syntax.Same(a.node, b.node); got != (i == j) {
				t.Errorf("Same(%s, %s) = %v", a.text, b.text, got)
			}
		}
		moved := testkit.Copied(a.node)
		at := 0
		testkit.Each(&moved, func(n *api.Node) { at++; n.At = at })
		if !syntax.Same(a.node, moved) || !syntax.Same(moved, a.node) {
			t.Errorf("%s is not the same at other places", a.text)
		}
	}
	if !syntax.Same(api.Node{Kind: api.NdList}, api.Node{Kind: api.NdList, Kids: []api.Node{}, At: 3}) {
		t.Errorf("no kids are not the same as no kids")
	}
	if syntax.Same(paren(v("x")), v("x")) {
		t.Errorf("parentheses are the same as none")
	}
}

// Nodes differ by each field of each node, one at a time.
func TestSameTellsFieldsApart(t *testing.T) {
	for _, s := range samples() {
		count := 0
		testkit.Each(&s.node, func(*api.Node) { count++ })
		for which := range count {
			for what, change := range []func(n *api.Node){
				func(n *api.Node) { n.Kind++ },
				func(n *api.Node) { n.Name += "1" },
				func(n *api.Node) { n.Num++ },
				func(n *api.Node) { n.Kids = append(n.Kids, num(1)) },
				func(n *api.Node) { n.Kids = n.Kids[:max(len(n.Kids)-1, 0)] },
			} {
				other := testkit.Copied(s.node)
				at, changed := 0, true
				testkit.Each(&other, func(n *api.Node) {
					if at == which {
						changed = what < 4 || len(n.Kids) > 0
						change(n)
					}
					at++
				})
				if syntax.Same(s.node, other) == changed || syntax.Same(other, s.node) == changed {
					t.Errorf("%s: change %d of node %d", s.text, what, which)
				}
			}
		}
	}
}

func TestSameOfNodesThatMayNotBe(t *testing.T) {
	rows := []struct {
		a, b api.Node
		want bool
	}{
		{api.Node{}, api.Node{}, true},
		{api.Node{}, api.Node{At: 1}, true},
		{of(-1), of(-1), true},
		{of(-1), of(45), false},
		{of(45, of(0), v("x")), of(45, of(0), v("x")), true},
		{of(45, of(0), v("x")), of(45, of(0), v("y")), false},
		{named(api.NdInt, "let"), named(api.NdInt, "let"), true},
		{named(api.NdInt, "let"), named(api.NdInt, ""), false},
		{v("x"), api.Node{Kind: api.NdVar, Name: "x", Num: 1}, false},
		{named(api.NdVar, "x", v("y")), v("x"), false},
		{paren(), paren(), true},
		{paren(), api.Node{}, false},
		{paren(v("x"), v("y")), paren(v("x"), v("y")), true},
		{paren(v("x"), v("y")), paren(v("y"), v("x")), false},
		{paren(v("x"), v("y")), paren(v("x")), false},
	}
	for i, r := range rows {
		if syntax.Same(r.a, r.b) != r.want || syntax.Same(r.b, r.a) != r.want {
			t.Errorf("row %d: want %v", i, r.want)
		}
	}
}

func TestSameOfDeepAndWideNodes(t *testing.T) {
	if !syntax.Same(nested(api.MaxDeep), nested(api.MaxDeep)) {
		t.Errorf("256 deep")
	}
	deep := nested(api.MaxDeep + 1)
	if syntax.Same(deep, deep) || syntax.Same(deep, nested(api.MaxDeep)) || syntax.Same(nested(api.MaxDeep), deep) {
		t.Errorf("257 deep")
	}
	last := func(deep int) api.Node { return of(0, v("x"), nested(deep-1)) }
	if !syntax.Same(last(api.MaxDeep), last(api.MaxDeep)) || syntax.Same(last(api.MaxDeep+1), last(api.MaxDeep+1)) {
		t.Errorf("deep in the last kid")
	}
	if !syntax.Same(wide(api.MaxNodes+1), wide(api.MaxNodes+1)) || syntax.Same(wide(api.MaxNodes+1), wide(api.MaxNodes+2)) {
		t.Errorf("more than 2^20 nodes")
	}
	for _, k := range []int{0, api.NdVar, api.NdParen} {
		if syntax.Same(endless(k), endless(k)) || syntax.Same(endless(k), v("x")) {
			t.Errorf("endless")
		}
	}
}

func checkStrip(t *testing.T, what string, n, want api.Node) {
	t.Helper()
	got := syntax.Strip(n)
	if !syntax.Same(got, want) {
		t.Errorf("%s: Strip = %v, want %v", what, got, want)
	}
	testkit.Each(&got, func(n *api.Node) {
		if n.At != 0 {
			t.Errorf("%s: a place %d is left", what, n.At)
		}
	})
}

func TestStrip(t *testing.T) {
	for _, s := range samples() {
		if s.node.Kind == api.NdParen {
			continue
		}
		checkStrip(t, s.text, testkit.Placed(s.node), s.node)
	}
	x, y := v("x"), v("y")
	rows := []struct{ n, want api.Node }{
		{paren(x), x},
		{paren(paren(paren(x))), x},
		{app(paren(v("f")), paren(paren(x)), y), app(v("f"), x, y)},
		{app(v("f"), paren(app(v("g"), paren(x)))), app(v("f"), app(v("g"), x))},
		{paren(app(v("f"), paren(x))), app(v("f"), x)},
		{ops(paren(x), op("+"), paren(of(api.NdNeg, paren(y)))), ops(x, op("+"), of(api.NdNeg, y))},
		{of(api.NdProgram, bind("x", paren(y))), of(api.NdProgram, bind("x", y))},
		{of(api.NdLam, pv("x"), paren(x)), of(api.NdLam, pv("x"), x)},
		{of(api.NdTuple, paren(of(api.NdTuple, x, y)), y), of(api.NdTuple, of(api.NdTuple, x, y), y)},
	}
	for _, r := range rows {
		checkStrip(t, told(r.n), testkit.Placed(r.n), r.want)
		checkStrip(t, told(r.n), r.n, r.want)
	}
}

func TestStripNodesThatMayNotBe(t *testing.T) {
	x, y := v("x"), v("y")
	rows := []struct {
		what    string
		n, want api.Node
	}{
		{"the zero node", api.Node{}, api.Node{}},
		{"kinds that are none", of(-1, of(45, x), of(0)), of(-1, of(45, x), of(0))},
		{"all fields", api.Node{Kind: api.NdInt, Name: "let", Num: -7, Kids: []api.Node{x}}, api.Node{Kind: api.NdInt, Name: "let", Num: -7, Kids: []api.Node{x}}},
		{"fields of parentheses", api.Node{Kind: api.NdParen, Name: "z", Num: 3, Kids: []api.Node{x}}, x},
		{"a kid of a variable", named(api.NdVar, "x", paren(y)), named(api.NdVar, "x", y)},
		{"parentheses of a pattern", of(api.NdPList, paren(pv("x"))), of(api.NdPList, pv("x"))},

		{"no parts within", of(api.NdList, x, paren(), y), of(api.NdList, x, y)},
		{"no parts alone within", of(api.NdList, paren()), of(api.NdList)},
		{"no parts twice", of(api.NdList, paren(), paren(paren())), of(api.NdList)},
		{"several parts within", of(api.NdList, x, paren(y, num(1)), x), of(api.NdList, x, y, num(1), x)},
		{"several parts in one another", of(api.NdList, paren(paren(x, y), paren(), num(1), paren(num(2), num(3)))), of(api.NdList, x, y, num(1), num(2), num(3))},

		{"no parts", paren(), api.Node{}},
		{"no parts in parentheses", paren(paren(), paren(paren())), api.Node{}},
		{"one part, and parentheses without", paren(paren(), x, paren()), x},
		{"several parts", paren(x, y), paren(x, y)},
		{"several parts in parentheses", paren(paren(x), paren(y, paren(), num(1))), paren(x, y, num(1))},
		{"several parts in one part", paren(paren(x, y)), paren(x, y)},
	}
	for _, r := range rows {
		checkStrip(t, r.what, r.n, r.want)
		checkStrip(t, r.what+", with places", testkit.Placed(r.n), r.want)
	}
}

func TestStripDeepAndWideNodes(t *testing.T) {
	checkStrip(t, "256 deep", testkit.Placed(nested(api.MaxDeep)), v("x"))
	last := of(0, v("x"), nested(api.MaxDeep))
	for _, n := range []api.Node{nested(api.MaxDeep + 1), testkit.Placed(nested(api.MaxDeep + 1)), nested(100000), last, endless(0), endless(api.NdVar), endless(api.NdParen)} {
		if got := syntax.Strip(n); !reflect.DeepEqual(got, api.Node{}) {
			t.Errorf("a node too deep: %v", got)
		}
	}
	n := wide(api.MaxNodes + 1)
	n.Kids[len(n.Kids)-1] = paren(v("y"))
	got := syntax.Strip(n)
	if len(got.Kids) != api.MaxNodes || !syntax.Same(got.Kids[api.MaxNodes-1], v("y")) {
		t.Errorf("more than 2^20 nodes: %d kids", len(got.Kids))
	}
}

func checkNames(t *testing.T, what string, n api.Node, want ...string) {
	t.Helper()
	if got := syntax.Names(n); !slices.Equal(got, want) {
		t.Errorf("%s: Names = %q, want %q", what, got, want)
	}
}

func TestNames(t *testing.T) {
	checkNames(t, "a variable", v("x"), "x")
	checkNames(t, "rising, each once", app(v("z"), v("x"), app(v("y"), v("x")), v("z")), "x", "y", "z")
	checkNames(t, "by bytes", of(api.NdList, v("b"), v("_"), v("a'"), v("a1"), v("a"), v("aB"), v("+"), v("ab")), "+", "_", "a", "a'", "a1", "aB", "ab", "b")
	checkNames(t, "of variables alone", of(api.NdList, con("C"), num(1), named(api.NdString, "s"), named(api.NdLeft, "+", num(1)), named(api.NdRight, "g", v("x"))), "x")
	checkNames(t, "no operators", ops(v("x"), op("f"), v("y")), "x", "y")
	checkNames(t, "no patterns", of(api.NdLam, pv("p"), named(api.NdPAs, "q", pv("r")), v("x")), "x")
	checkNames(t, "no definitions", of(api.NdProgram, named(api.NdEqn, "f", pv("p"), rhs(v("x"), where(bind("w", v("y")))))), "x", "y")
	checkNames(t, "of nothing", of(api.NdProgram))
	checkNames(t, "of a guard and a block", rhs(guard(v("y"), v("x")), where(bind("w", v("a")))), "a", "x", "y")
	for _, s := range samples() {
		var l []string
		testkit.Each(&s.node, func(n *api.Node) {
			if n.Kind == api.NdVar {
				l = append(l, n.Name)
			}
		})
		slices.Sort(l)
		checkNames(t, s.text, s.node, slices.Compact(l)...)
	}
}

func TestNamesOfNodesThatMayNotBe(t *testing.T) {
	checkNames(t, "the zero node", api.Node{})
	checkNames(t, "kinds that are none", of(-1, v("x"), of(45, v("a"))), "a", "x")
	checkNames(t, "any names", of(api.NdList, v("let"), v(""), v("C"), v("\xff")), "", "C", "let", "\xff")
	checkNames(t, "kids of a variable", named(api.NdVar, "x", named(api.NdVar, "b", v("a"))), "a", "b", "x")
	checkNames(t, "kids of what has none", named(api.NdInt, "n", v("a")), "a")
	checkNames(t, "parentheses without parts", paren())
	checkNames(t, "parentheses with several", paren(v("b"), v("a"), paren(v("c"))), "a", "b", "c")
	checkNames(t, "256 deep", nested(api.MaxDeep), "x")
	checkNames(t, "257 deep", nested(api.MaxDeep+1))
	checkNames(t, "257 deep behind others", of(api.NdTuple, v("x"), nested(api.MaxDeep)))
	checkNames(t, "more than 2^20 nodes", wide(api.MaxNodes+1), "x")
	checkNames(t, "endless", endless(api.NdVar))
	checkNames(t, "endless parentheses", endless(api.NdParen))
}

func trees() []api.Node {
	all := []api.Node{
		app(paren(v("f")), paren(app(v("g"), paren(v("x")))), v("y")),
		of(api.NdList, paren(v("x"), v("y")), paren(), v("z")),
		paren(v("x"), of(api.NdList, v("y"))),
		paren(),
		of(45, v("x"), of(0)),
	}
	for _, s := range samples() {
		all = append(all, s.node)
	}
	return all
}

// What Strip answered and what it was handed have no memory in common, spare room neither.
func TestStripAnswersNewMemory(t *testing.T) {
	for _, n := range trees() {
		want := syntax.Strip(testkit.Placed(n))
		handed := testkit.Spare(testkit.Placed(n))
		before := testkit.Copied(handed)
		got := syntax.Strip(handed)
		if !reflect.DeepEqual(testkit.Copied(handed), before) {
			t.Errorf("%s: what was handed in is changed", told(n))
		}
		testkit.Each(&handed, func(n *api.Node) {
			for _, k := range n.Kids[len(n.Kids):cap(n.Kids)] {
				if !reflect.DeepEqual(k, testkit.Marked()) {
					t.Errorf("spare room is written")
				}
			}
		})
		testkit.Each(&got, func(n *api.Node) {
			for _, k := range n.Kids[:cap(n.Kids)] {
				if k.Kind == math.MinInt {
					t.Errorf("spare room is handed out")
				}
			}
		})
		testkit.Overwrite(&handed)
		if !syntax.Same(got, want) {
			t.Errorf("%s: the answer heeds what was handed in: %v", told(n), got)
		}
		handed = testkit.Spare(testkit.Placed(n))
		got = syntax.Strip(handed)
		testkit.Overwrite(&got)
		if !reflect.DeepEqual(testkit.Copied(handed), before) {
			t.Errorf("%s: what was handed in heeds the answer", told(n))
		}
	}
}

// No two lists of an answer have memory in common: what is put behind one is in no other.
func TestStripSharesNoLists(t *testing.T) {
	twice := app(v("f"), paren(v("x")))
	n := of(api.NdList, twice, twice, paren(twice))
	got := syntax.Strip(n)
	for i := range got.Kids {
		want := testkit.Copied(got)
		want.Kids[i].Kids[1] = num(5)
		want.Kids[i].Kids = append(want.Kids[i].Kids, num(6))
		got.Kids[i].Kids[1] = num(5)
		got.Kids[i].Kids = append(got.Kids[i].Kids, num(6))
		if !reflect.DeepEqual(got, want) {
			t.Errorf("a change of kid %d is seen elsewhere: %v", i, got)
		}
	}
	if !syntax.Same(n, of(api.NdList, app(v("f"), paren(v("x"))), app(v("f"), paren(v("x"))), paren(app(v("f"), paren(v("x")))))) {
		t.Errorf("what was handed in heeds the answer")
	}
}

func TestLexemesAnswerNewMemory(t *testing.T) {
	for _, s := range samples() {
		want, _ := syntax.Lexemes(s.node)
		handed := testkit.Spare(testkit.Placed(s.node))
		before := testkit.Copied(handed)
		got, e := syntax.Lexemes(handed)
		if e != api.OK || !slices.Equal(got, want) || !reflect.DeepEqual(testkit.Copied(handed), before) {
			t.Errorf("%s: spare room or places count", s.text)
		}
		again, _ := syntax.Lexemes(handed)
		testkit.Overwrite(&handed)
		if !slices.Equal(got, want) {
			t.Errorf("%s: the answer heeds what was handed in", s.text)
		}
		handed = testkit.Spare(testkit.Placed(s.node))
		got, _ = syntax.Lexemes(handed)
		l := got[:cap(got)]
		for i := range l {
			l[i] = api.Token{Kind: -1, Text: "overwritten"}
		}
		if !reflect.DeepEqual(testkit.Copied(handed), before) || !slices.Equal(again, want) {
			t.Errorf("%s: what was handed in, or answered ahead, heeds the answer", s.text)
		}
		if after, _ := syntax.Lexemes(handed); !slices.Equal(after, want) {
			t.Errorf("%s: a later answer heeds one ahead", s.text)
		}
	}
}

func TestNamesAnswerNewMemory(t *testing.T) {
	n := app(v("f"), v("x"))
	a, b := syntax.Names(n), syntax.Names(n)
	a[0] = "overwritten"
	n.Kids[1].Name = "y"
	if !slices.Equal(b, []string{"f", "x"}) {
		t.Errorf("Names = %q", b)
	}
	checkNames(t, "changed", n, "f", "y")
}
