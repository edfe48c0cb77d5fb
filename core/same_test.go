package core_test

import (
	"reflect"
	"slices"
	"testing"

	"thunkmill/api"
	"thunkmill/core"
	"thunkmill/testkit"
)

func sameIs(t *testing.T, a, b api.Expr, want bool) {
	t.Helper()
	if core.Same(a, b) != want || core.Same(b, a) != want {
		t.Errorf("Same of %s and %s is not %v", core.Text(a), core.Text(b), want)
	}
}

// P7.2: expressions that differ in names of bound variables alone.
func TestSame(t *testing.T) {
	for _, pair := range [][2]string{
		{"x", "x"}, {"1", "1"}, {"'1'", "'1'"}, {"(\\ x -> x)", "(\\ y -> y)"}, {"(\\ x y -> (x y))", "(\\ y x -> (y x))"}, {"(\\ x -> (\\ x -> x))", "(\\ x -> (\\ y -> y))"}, {"(\\ x -> (\\ y -> (x y z)))", "(\\ b -> (\\ a -> (b a z)))"},
		{"(let a = b; b = a in (a b))", "(let b = a; a = b in (b a))"}, {"(let a = a in a)", "(let b = b in b)"}, {"(let x = (\\ x -> x) in x)", "(let y = (\\ z -> z) in y)"},
		{"(case x of x -> x)", "(case x of y -> y)"}, {"(case 1 of Cons x y -> (x y z))", "(case 1 of Cons y x -> (y x z))"}, {"(case x of 1 -> x; y -> (x y))", "(case x of 1 -> x; z -> (x z))"}, {"(case 1 of '1' -> x; _ -> y)", "(case 1 of '1' -> x; _ -> y)"},
		{"((\\ x -> x) x)", "((\\ y -> y) x)"}, {"(Cons (\\ x -> x) (Nil))", "(Cons (\\ z -> z) (Nil))"}, {"(#add x (let x = 1 in x))", "(#add x (let y = 1 in y))"}, {"(let a = (case a of a -> a) in (\\ a -> a))", "(let b = (case b of c -> c) in (\\ d -> d))"},
	} {
		sameIs(t, read(pair[0]), read(pair[1]), true)
	}
	for _, pair := range [][2]string{
		{"x", "y"}, {"1", "2"}, {"1", "'1'"}, {"'1'", "'2'"}, {"x", "1"}, {"(\\ x -> x)", "(\\ y -> x)"}, {"(\\ x -> y)", "(\\ x -> z)"}, {"(\\ x -> y)", "(\\ y -> y)"}, {"(\\ x y -> x)", "(\\ x y -> y)"}, {"(\\ x y -> 1)", "(\\ x -> 1)"}, {"(\\ x y -> 1)", "(\\ x -> (\\ y -> 1))"},
		{"(\\ x -> (\\ y -> x))", "(\\ x -> (\\ x -> x))"}, {"(x y)", "(y x)"}, {"(x y)", "(x y y)"}, {"(x y z)", "((x y) z)"}, {"(let a = 1; b = 2 in 3)", "(let b = 2; a = 1 in 3)"}, {"(let a = 1; b = 2 in a)", "(let b = 2; a = 1 in a)"}, {"(let a = a in 1)", "(let b = a in 1)"}, {"(let a = 1 in a)", "(let a = 1 in b)"},
		{"(let a = 1 in 2)", "(let a = 1; b = 1 in 2)"}, {"(let a = 1 in 2)", "(let a = 2 in 2)"}, {"(let a = 1 in 2)", "(let a = 1 in 3)"}, {"(case x of x -> x)", "(case y of y -> y)"}, {"(case 1 of x -> 2)", "(case 1 of _ -> 2)"}, {"(case 1 of Cons x y -> x)", "(case 1 of Cons x y -> y)"}, {"(case 1 of Nil -> 1)", "(case 1 of True -> 1)"},
		{"(case 1 of 1 -> 1)", "(case 1 of 2 -> 1)"}, {"(case 1 of 1 -> 1)", "(case 1 of '1' -> 1)"}, {"(case 1 of 1 -> 1; 2 -> 2)", "(case 1 of 2 -> 2; 1 -> 1)"}, {"(case 1 of 1 -> 1)", "(case 1 of 1 -> 1; _ -> 2)"}, {"(case 1 of 1 -> 1; _ -> 2)", "(case 1 of 1 -> 1; _ -> 3)"}, {"(case 1 of K a b -> 1)", "(case 1 of K a -> 1)"},
		{"(Cons 1 2)", "(K 1 2)"}, {"(#add 1 2)", "(#sub 1 2)"}, {"(Cons 1 2)", "(Cons 1 3)"}, {"(Nil)", "(#Nil)"}, {"(case 1 of x -> y)", "(case 1 of x -> x)"}, {"(x (\\ x -> x))", "(y (\\ y -> y))"}, {"((\\ x -> 1) x)", "((\\ x -> 1) y)"}, {"((case 1 of x -> 1) x)", "((case 1 of y -> 1) y)"}, {"((let x = 1 in 1) x)", "((let y = 1 in 1) y)"},
	} {
		sameIs(t, read(pair[0]), read(pair[1]), false)
	}
}

// P7.2: of expressions that may not be all fields count; Params and Binds hide in all of an expression, Vars in their alternative.
func TestSameOfWhatMayNotBe(t *testing.T) {
	one, x, y := number(1), variable("x"), variable("y")
	alike := [][2]api.Expr{
		{{}, {}}, {{Kind: 77, Name: "a", Num: 5}, {Kind: 77, Name: "a", Num: 5}}, {{Kind: -1, Params: []string{"x"}, Args: []api.Expr{x}}, {Kind: -1, Params: []string{"y"}, Args: []api.Expr{y}}},
		{{Kind: api.ExVar, Name: "x", Params: []string{"x"}}, {Kind: api.ExVar, Name: "y", Params: []string{"y"}}}, {{Kind: api.ExVar, Name: "x", Binds: []api.Bind{{Name: "x"}}}, {Kind: api.ExVar, Name: "y", Binds: []api.Bind{{Name: "y"}}}},
		{{Kind: api.ExInt, Params: []string{"x"}, Alts: []api.Alt{{E: x}}}, {Kind: api.ExInt, Params: []string{"y"}, Alts: []api.Alt{{E: y}}}}, {{Binds: []api.Bind{{Name: "x", E: x}}, Alts: []api.Alt{{E: x}}}, {Binds: []api.Bind{{Name: "y", E: y}}, Alts: []api.Alt{{E: y}}}},
		{{Kind: api.ExCase, Alts: []api.Alt{{Kind: api.AltInt, Vars: []string{"x"}, E: x}}}, {Kind: api.ExCase, Alts: []api.Alt{{Kind: api.AltInt, Vars: []string{"y"}, E: y}}}}, {{Alts: []api.Alt{{Kind: 9, Name: "a", Num: 2, Vars: []string{"x", "x"}, E: x}}}, {Alts: []api.Alt{{Kind: 9, Name: "a", Num: 2, Vars: []string{"x", "y"}, E: y}}}},
		{{Params: []string{"x"}, Binds: []api.Bind{{Name: "y", E: x}}, Args: []api.Expr{y}}, {Params: []string{"y"}, Binds: []api.Bind{{Name: "x", E: y}}, Args: []api.Expr{x}}}, {{Params: []string{}, Args: []api.Expr{}, Binds: []api.Bind{}, Alts: []api.Alt{}}, {}},
		{{Kind: api.ExLam, Params: []string{"x", "x"}, Args: []api.Expr{x}}, {Kind: api.ExLam, Params: []string{"x", "y"}, Args: []api.Expr{y}}},
	}
	for _, pair := range alike {
		sameIs(t, pair[0], pair[1], true)
	}
	other := [][2]api.Expr{
		{{}, {Kind: 1}}, {{Kind: 77}, {Kind: 78}}, {{}, {Name: "a"}}, {{}, {Num: 1}}, {{}, {Params: []string{"x"}}}, {{}, {Args: []api.Expr{one}}}, {{}, {Binds: []api.Bind{{}}}}, {{}, {Alts: []api.Alt{{}}}}, {{Args: []api.Expr{one}}, {Args: []api.Expr{one, one}}},
		{{Kind: api.ExInt, Name: "a"}, {Kind: api.ExInt, Name: "b"}}, {{Kind: api.ExInt, Name: "a", Params: []string{"a"}}, {Kind: api.ExInt, Name: "b", Params: []string{"b"}}}, {{Kind: api.ExVar, Name: "x", Num: 1}, x}, {{Kind: api.ExVar, Name: "x", Args: []api.Expr{one}}, x}, {{Kind: api.ExVar, Name: "x", Params: []string{"x"}}, {Kind: api.ExVar, Name: "x", Params: []string{"y"}}},
		{{Alts: []api.Alt{{}}}, {Alts: []api.Alt{{Kind: 1}}}}, {{Alts: []api.Alt{{}}}, {Alts: []api.Alt{{Name: "a"}}}}, {{Alts: []api.Alt{{}}}, {Alts: []api.Alt{{Num: 1}}}}, {{Alts: []api.Alt{{}}}, {Alts: []api.Alt{{Vars: []string{"x"}}}}}, {{Alts: []api.Alt{{Name: "x", Vars: []string{"x"}}}}, {Alts: []api.Alt{{Name: "y", Vars: []string{"y"}}}}}, {{Alts: []api.Alt{{E: x}}}, {Alts: []api.Alt{{E: y}}}},
		{{Params: []string{"x", "y"}, Args: []api.Expr{x}}, {Params: []string{"x", "y"}, Args: []api.Expr{y}}}, {{Params: []string{"x"}, Binds: []api.Bind{{Name: "y"}}}, {Params: []string{"x", "y"}}}, {{Alts: []api.Alt{{Vars: []string{"x"}}, {E: x}}}, {Alts: []api.Alt{{Vars: []string{"y"}}, {E: y}}}},
		{{Kind: api.ExApp, Args: []api.Expr{{Kind: api.ExVar, Name: "x", Params: []string{"x"}}, x}}, {Kind: api.ExApp, Args: []api.Expr{{Kind: api.ExVar, Name: "y", Params: []string{"y"}}, y}}},
	}
	for _, pair := range other {
		sameIs(t, pair[0], pair[1], false)
	}
}

// P7.2: programs are the same by their constructors, and by their bindings, name by name.
func TestSameProg(t *testing.T) {
	is := func(a, b api.Prog, want bool) {
		t.Helper()
		if core.SameProg(a, b) != want || core.SameProg(b, a) != want {
			t.Errorf("SameProg of\n%s%sis not %v", core.ProgText(a), core.ProgText(b), want)
		}
	}
	p := prog("a = (\\ x -> (x b))", "b = 1", "main = (a b)")
	is(p, p, true)
	is(p, prog("a = (\\ y -> (y b))", "b = 1", "main = (a b)"), true)
	is(api.Prog{}, api.Prog{}, true)
	is(api.Prog{}, api.Prog{Cons: []api.Con{}, Binds: []api.Bind{}}, true)
	for _, other := range []api.Prog{
		prog("a = (\\ x -> (x a))", "b = 1", "main = (a b)"), prog("a = (\\ x -> (x b))", "b = 2", "main = (a b)"), prog("a = (\\ x -> (x b))", "b = 1"), prog("a = (\\ x -> (x b))", "main = (a b)"), prog("a = (\\ x -> (x c))", "c = 1", "main = (a c)"), prog("a = (\\ x -> (x b))", "b = 1", "main = (a b)", "z = 1"),
		{Cons: builtin(), Binds: p.Binds}, {Binds: p.Binds}, {Cons: p.Cons}, prog("a = (\\ b -> (b b))", "b = 1", "main = (a b)"),
	} {
		is(p, other, false)
	}
	for i := range p.Cons {
		for _, change := range []func(c *api.Con){func(c *api.Con) { c.Name += "'" }, func(c *api.Con) { c.Arity++ }, func(c *api.Con) { c.Type += "'" }, func(c *api.Con) { c.Tag++ }} {
			q := api.Prog{Cons: slices.Clone(p.Cons), Binds: p.Binds}
			change(&q.Cons[i])
			is(p, q, false)
		}
	}
	q := prog("a = 1", "b = 2", "main = 3")
	is(q, api.Prog{Cons: q.Cons, Binds: []api.Bind{q.Binds[2], q.Binds[0], q.Binds[1]}}, true)
	is(q, prog("a = 2", "b = 1", "main = 3"), false)
	is(prog("a = 1", "a = 2"), prog("a = 1", "a = 1"), false)
	is(prog("a = 1", "a = 2"), prog("a = 2", "a = 1"), false)
}

// P7.2: of expressions that are too great or too deep nothing is told.
func TestTooGreat(t *testing.T) {
	one := number(1)
	for what, e := range testkit.TooGreat() {
		if core.Same(e, e) || core.Same(e, one) || core.Same(one, e) {
			t.Errorf("Same, %s", what)
		}
		if n := core.Size(e); n != 0 {
			t.Errorf("Size, %s: %d", what, n)
		}
		if l := core.Free(e); len(l) != 0 {
			t.Errorf("Free, %s: %q", what, l)
		}
		for _, got := range []api.Expr{core.Copy(e), core.Subst(e, "x", one), core.Subst(one, "x", e), core.Subst(variable("x"), "x", e)} {
			if !reflect.DeepEqual(got, api.Expr{}) {
				t.Errorf("Copy or Subst, %s: not the zero expression", what)
			}
		}
		if core.Text(e) != "" {
			t.Errorf("Text, %s", what)
		}
		p := mainIs(e)
		if core.SameProg(p, p) || core.SameProg(p, mainIs(one)) || core.SameProg(mainIs(one), p) || core.ProgText(p) != "" {
			t.Errorf("SameProg or ProgText, %s", what)
		}
	}
	free := variable("free")
	for _, e := range []api.Expr{testkit.Nested(api.MaxNest+1, free), {Kind: api.ExApp, Args: []api.Expr{free, testkit.Tree(api.MaxNodes - 1)}}} {
		if l := core.Free(e); len(l) != 0 {
			t.Errorf("Free of what is too great: %q", l)
		}
	}
}

// P7.2: of those that are just not too great all is told.
func TestJustNotTooGreat(t *testing.T) {
	for what, e := range testkit.Greatest() {
		size := api.MaxNodes
		if what[:4] == "deep" {
			size = map[string]int{"deep by a lambda": api.MaxNest, "deep by a case": api.MaxNest + 1, "deep by a let": api.MaxNest + 1}[what]
		}
		if n := core.Size(e); n != size {
			t.Errorf("Size, %s: %d", what, n)
		}
		if !core.Same(e, e) || core.Same(e, number(1)) {
			t.Errorf("Same, %s", what)
		}
		if !core.Same(core.Copy(e), e) || !core.Same(core.Subst(e, "x", number(1)), e) || !core.Same(core.Subst(variable("x"), "x", e), e) {
			t.Errorf("Copy or Subst, %s", what)
		}
		if l := core.Free(e); len(l) != 0 {
			t.Errorf("Free, %s: %q", what, l)
		}
		p := mainIs(e)
		if !core.SameProg(p, p) || core.Text(e) == "" || core.ProgText(p) == "" {
			t.Errorf("SameProg, Text or ProgText, %s", what)
		}
	}
	free := variable("free")
	for _, e := range []api.Expr{testkit.Nested(api.MaxNest, free), {Kind: api.ExApp, Args: []api.Expr{free, testkit.Tree(api.MaxNodes - 2)}}} {
		if l := core.Free(e); !slices.Equal(l, []string{"free"}) {
			t.Errorf("Free of what is just not too great: %q", l)
		}
	}
	half := testkit.Tree(api.MaxNodes / 2)
	p := api.Prog{Binds: []api.Bind{{Name: "a", E: half}, {Name: "b", E: half}}}
	if !core.SameProg(p, p) || core.ProgText(p) == "" {
		t.Errorf("a program that is just not too great")
	}
	p.Binds = append(p.Binds, api.Bind{Name: "c", E: number(1)})
	if core.SameProg(p, p) || core.ProgText(p) != "" {
		t.Errorf("a program that is just too great")
	}
}

// P7.2: how many expressions there are. (The chapter's table has 5 of the let: its words count 6.)
func TestSize(t *testing.T) {
	for text, want := range map[string]int{
		"x": 1, "1": 1, "'1'": 1, "(Nil)": 1, "(Cons 1 (Nil))": 3, "(\\ x y z -> x)": 2, "(f x y)": 4, "(let a = (b 1); b = 2 in a)": 6, "(let a = 1 in a)": 3, "(case x of Cons a b -> a; Nil -> 1)": 4, "(case x of _ -> 1)": 3, "(#getc)": 1, "(#add 1 2)": 3, "(case (f x) of 1 -> (g x); 2 -> (\\ y -> y); _ -> 1)": 10,
	} {
		if got := core.Size(read(text)); got != want {
			t.Errorf("Size of %s: %d instead of %d", text, got, want)
		}
	}
	all := api.Expr{Kind: 99, Binds: []api.Bind{{}, {E: read("(f x)")}}, Args: []api.Expr{{}, {}}, Alts: []api.Alt{{}, {Kind: 99, E: read("(f x)")}}}
	if got := core.Size(all); got != 11 {
		t.Errorf("Size of a kind that is none: %d", got)
	}
	if got := core.Size(api.Expr{}); got != 1 {
		t.Errorf("Size of the zero expression: %d", got)
	}
}

// P7.2: the variables that are in no scope, rising, each once.
func TestFree(t *testing.T) {
	for text, want := range map[string][]string{
		"x": {"x"}, "1": {}, "(Nil)": {}, "(let a = (b 1); b = 2 in a)": {}, "(b a b a)": {"a", "b"}, "(\\ x -> (x y))": {"y"}, "((\\ x -> x) x)": {"x"}, "(\\ x -> (\\ y -> (x y z)))": {"z"}, "(let a = b in a)": {"b"}, "(let a = a in b)": {"b"}, "((let a = a in 1) a)": {"a"}, "(case x of x -> x)": {"x"}, "(case 1 of Cons x y -> (x y z); Nil -> x)": {"x", "z"}, "(case 1 of 1 -> x; x -> (x y))": {"x", "y"},
		"(Cons z (#add y x))": {"x", "y", "z"}, "(a B a ab aa)": {"B", "a", "aa", "ab"}, "(let x = (\\ x -> (x y)) in (x z))": {"y", "z"}, "(x (let x = 1 in x) (\\ y -> x) y)": {"x", "y"},
	} {
		if got := core.Free(read(text)); !slices.Equal(got, want) {
			t.Errorf("Free of %s: %q instead of %q", text, got, want)
		}
	}
	x := variable("x")
	for _, c := range []struct {
		e    api.Expr
		want []string
	}{
		{api.Expr{}, nil}, {api.Expr{Name: "x"}, nil}, {api.Expr{Kind: 99, Args: []api.Expr{x}}, []string{"x"}}, {api.Expr{Kind: 99, Params: []string{"x"}, Args: []api.Expr{x}, Alts: []api.Alt{{E: x}}, Binds: []api.Bind{{Name: "y", E: x}}}, nil}, {api.Expr{Kind: api.ExVar, Name: "x", Params: []string{"x"}}, nil}, {api.Expr{Kind: api.ExVar, Name: "x", Binds: []api.Bind{{Name: "x", E: variable("z")}}}, []string{"z"}},
		{api.Expr{Kind: api.ExInt, Binds: []api.Bind{{Name: "x"}}, Args: []api.Expr{x}, Alts: []api.Alt{{E: x}}}, nil}, {api.Expr{Kind: api.ExVar, Name: "x", Alts: []api.Alt{{Vars: []string{"x"}, E: x}}}, []string{"x"}}, {api.Expr{Alts: []api.Alt{{Kind: 77, Vars: []string{"x"}, E: x}}}, nil}, {api.Expr{Alts: []api.Alt{{Vars: []string{"x"}, E: x}, {E: x}}}, []string{"x"}}, {api.Expr{Alts: []api.Alt{{Name: "x"}}}, nil},
		{variable(""), []string{""}}, {api.Expr{Kind: api.ExVar, Name: "x", Args: []api.Expr{variable("a b")}}, []string{"a b", "x"}}, {api.Expr{Params: []string{"x", "x"}, Args: []api.Expr{x}}, nil}, {api.Expr{Kind: api.ExApp, Args: []api.Expr{{Params: []string{"x", "x"}, Args: []api.Expr{x}}, x}}, []string{"x"}},
	} {
		if got := core.Free(c.e); !slices.Equal(got, c.want) {
			t.Errorf("Free of %+v: %q instead of %q", c.e, got, c.want)
		}
	}
}

// P7.2: the primitives and the built-in constructors.
func TestArityAndBuiltin(t *testing.T) {
	for _, p := range prims() {
		if got := core.Arity(p.Name); got != p.Arity {
			t.Errorf("Arity of %s: %d", p.Name, got)
		}
	}
	if len(prims()) != 24 {
		t.Errorf("%d primitives", len(prims()))
	}
	for _, name := range []string{"", "Add", "add ", " add", "#add", "adds", "ad", "x", "Cons", "getC", "addsub", "get"} {
		if got := core.Arity(name); got != -1 {
			t.Errorf("Arity of %q: %d", name, got)
		}
	}
	if got := core.Builtin(); !slices.Equal(got, builtin()) {
		t.Errorf("Builtin: %v", got)
	}
	core.Builtin()[0] = api.Con{}
	if got := core.Builtin(); !slices.Equal(got, builtin()) {
		t.Errorf("Builtin behind a change: %v", got)
	}
}
