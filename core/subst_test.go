package core_test

import (
	"reflect"
	"slices"
	"strings"
	"testing"

	"thunkmill/api"
	"thunkmill/core"
	"thunkmill/testkit"
)

// P7.2: one expression in the place of a name, in whatever binds names, the names of what is put there being caught by none.
func TestSubst(t *testing.T) {
	for _, c := range []struct{ e, name, by, want string }{
		{"(\\ y -> (x y))", "x", "y", "(\\ z -> (y z))"},
		{"x", "x", "y", "y"}, {"x", "x", "x", "x"}, {"x", "y", "1", "x"}, {"1", "x", "2", "1"}, {"x", "x", "(\\ x -> x)", "(\\ x -> x)"}, {"(x y x)", "x", "(f y)", "((f y) y (f y))"}, {"(Cons x (Nil))", "x", "(x x)", "(Cons (x x) (Nil))"}, {"(#add x (#ord x))", "x", "'1'", "(#add '1' (#ord '1'))"},
		// The name is bound.
		{"(\\ x -> x)", "x", "1", "(\\ x -> x)"}, {"(\\ x -> (x y))", "x", "y", "(\\ x -> (x y))"}, {"(let x = x in x)", "x", "1", "(let x = x in x)"}, {"(let y = x; x = y in (x y))", "x", "z", "(let y = x; x = y in (x y))"}, {"(case x of x -> x)", "x", "1", "(case 1 of x -> x)"}, {"(case x of Cons x y -> x; Nil -> x; _ -> x)", "x", "1", "(case 1 of Cons x y -> x; Nil -> 1; _ -> 1)"}, {"((\\ x -> x) x)", "x", "y", "((\\ x -> x) y)"}, {"(x (\\ x -> x) x)", "x", "y", "(y (\\ x -> x) y)"},
		{"(x (let x = 1 in x) x)", "x", "y", "(y (let x = 1 in x) y)"}, {"((case 1 of x -> x) x)", "x", "y", "((case 1 of x -> x) y)"},
		// A bound variable is free in what is put there.
		{"(\\ y z -> (x y z))", "x", "(y z)", "(\\ a b -> ((y z) a b))"}, {"(let y = x in y)", "x", "y", "(let z = y in z)"}, {"(let y = x; z = (y x) in (z y x))", "x", "(z y)", "(let a = (z y); b = (a (z y)) in (b a (z y)))"}, {"(let y = 1 in x)", "x", "y", "(let z = 1 in y)"}, {"(case x of y -> (x y))", "x", "y", "(case y of z -> (y z))"}, {"(case 1 of Cons y z -> (x y z); z -> (x z); _ -> x)", "x", "(y z)", "(case 1 of Cons a b -> ((y z) a b); a -> ((y z) a); _ -> (y z))"},
		{"(\\ y -> (\\ y -> (x y)))", "x", "y", "(\\ a -> (\\ b -> (y b)))"}, {"(\\ y -> (x (\\ y -> y) y))", "x", "y", "(\\ a -> (y (\\ b -> b) a))"}, {"(\\ y -> ((\\ x -> (x y)) x))", "x", "y", "(\\ a -> ((\\ x -> (x a)) y))"}, {"(y (\\ y -> (x y)))", "x", "y", "(y (\\ z -> (y z)))"}, {"((\\ y -> y) x y)", "x", "y", "((\\ z -> z) y y)"}, {"(x (\\ x -> x))", "x", "(x y)", "((x y) (\\ x -> x))"}, {"(\\ x -> (x y))", "y", "x", "(\\ z -> (z x))"},
		// New names are none that are there.
		{"(\\ y -> (x y v1 v2))", "x", "y", "(\\ z -> (y z v1 v2))"}, {"(\\ y -> (x y))", "x", "(y v1 v2 v3)", "(\\ z -> ((y v1 v2 v3) z))"}, {"(\\ v1 v2 -> (x v1 v2))", "x", "(v1 v2)", "(\\ a b -> ((v1 v2) a b))"}, {"(\\ y -> (\\ v1 -> (x y v1)))", "x", "y", "(\\ a -> (\\ b -> (y a b)))"}, {"(\\ y -> (let v1 = y; v2 = v1 in (x y v1 v2)))", "x", "y", "(\\ a -> (let b = a; c = b in (y a b c)))"}, {"(\\ y -> (case y of Cons v1 v2 -> (x y v1 v2)))", "x", "y", "(\\ a -> (case a of Cons b c -> (y a b c)))"},
		// What is bound in what is put there catches nothing.
		{"(\\ y -> (x y))", "x", "(\\ y -> y)", "(\\ y -> ((\\ y -> y) y))"}, {"(y x)", "x", "(let y = y in y)", "(y (let y = y in y))"},
	} {
		got := core.Subst(read(c.e), c.name, read(c.by))
		if want := read(c.want); !core.Same(got, want) || nameless(got) != nameless(want) {
			t.Errorf("Subst of %s, %s by %s: %s instead of %s", c.e, c.name, c.by, core.Text(got), c.want)
		}
	}
}

// P7.4: a name that is not free changes nothing, not even what bound variables are called.
func TestSubstOfANameThatIsNotFree(t *testing.T) {
	for _, text := range []string{"1", "y", "(\\ x -> (x y))", "(let x = y; y = x in (x y))", "(case y of x -> (x y))", "(case y of Cons x y -> (x y); _ -> y)", "(f (\\ y -> y) (\\ x -> x))"} {
		for _, by := range []string{"y", "(x y)", "(\\ x -> y)", "1", "f"} {
			if got := core.Subst(read(text), "x", read(by)); !reflect.DeepEqual(got, read(text)) {
				t.Errorf("Subst of %s by %s: %s", text, by, core.Text(got))
			}
		}
	}
}

// P7.2: what may not be, is gone through by all its fields; a variable's others go with it.
func TestSubstOfWhatMayNotBe(t *testing.T) {
	x, y, f := variable("x"), variable("y"), read("(f y)")
	l := func(e ...api.Expr) []api.Expr { return e }
	for _, c := range []struct{ e, want api.Expr }{
		{api.Expr{}, api.Expr{}}, {api.Expr{Kind: 99, Name: "x", Num: 7}, api.Expr{Kind: 99, Name: "x", Num: 7}},
		{api.Expr{Kind: 99, Binds: []api.Bind{{Name: "a", E: x}}, Args: l(x, x), Alts: []api.Alt{{Kind: 7, Name: "x", Num: 3, E: x}}}, api.Expr{Kind: 99, Binds: []api.Bind{{Name: "a", E: f}}, Args: l(f, f), Alts: []api.Alt{{Kind: 7, Name: "x", Num: 3, E: f}}}},
		{api.Expr{Kind: 99, Params: []string{"y"}, Args: l(x, y)}, api.Expr{Kind: 99, Params: []string{"z"}, Args: l(f, variable("z"))}}, {api.Expr{Params: []string{"x"}, Args: l(x), Binds: []api.Bind{{Name: "q", E: x}}, Alts: []api.Alt{{E: x}}}, api.Expr{Params: []string{"x"}, Args: l(x), Binds: []api.Bind{{Name: "q", E: x}}, Alts: []api.Alt{{E: x}}}},
		{api.Expr{Binds: []api.Bind{{Name: "x", E: x}}, Args: l(x), Alts: []api.Alt{{E: x}}}, api.Expr{Binds: []api.Bind{{Name: "x", E: x}}, Args: l(x), Alts: []api.Alt{{E: x}}}}, {api.Expr{Alts: []api.Alt{{Kind: api.AltInt, Vars: []string{"x"}, E: x}, {Vars: []string{"y", "y"}, E: l(x, y)[0]}}}, api.Expr{Alts: []api.Alt{{Kind: api.AltInt, Vars: []string{"x"}, E: x}, {Vars: []string{"a", "b"}, E: f}}}},
		{api.Expr{Kind: api.ExVar, Name: "x", Params: []string{"x"}}, api.Expr{Kind: api.ExVar, Name: "z", Params: []string{"z"}}}, {api.Expr{Kind: api.ExVar, Name: "x", Num: 8, Args: l(x, y)}, f}, {api.Expr{Kind: api.ExVar, Name: "y", Args: l(x)}, api.Expr{Kind: api.ExVar, Name: "y", Args: l(f)}}, {api.Expr{Kind: api.ExVar, Name: "y", Binds: []api.Bind{{Name: "y", E: x}}}, api.Expr{Kind: api.ExVar, Name: "z", Binds: []api.Bind{{Name: "z", E: f}}}},
		{api.Expr{Kind: api.ExLam, Params: []string{"y", "y"}, Args: l(x, y)}, api.Expr{Kind: api.ExLam, Params: []string{"a", "b"}, Args: l(f, variable("b"))}},
	} {
		if got := core.Subst(c.e, "x", f); !core.Same(got, c.want) || nameless(got) != nameless(c.want) {
			t.Errorf("Subst of %+v: %+v instead of %+v", c.e, got, c.want)
		}
	}
	none := api.Expr{Kind: 99, Params: []string{"x"}, Args: l(x, y)}
	if got := core.Subst(read("(\\ y -> (x y))"), "x", none); !core.Same(got, api.Expr{Kind: api.ExLam, Params: []string{"z"}, Args: l(api.Expr{Kind: api.ExApp, Args: l(none, variable("z"))})}) {
		t.Errorf("Subst by a kind that is none: %+v", got)
	}
	if got := core.Subst(api.Expr{Kind: api.ExApp, Args: l(variable(""), x)}, "", number(1)); !core.Same(got, read("(1 x)")) {
		t.Errorf("Subst of a name that may not be: %+v", got)
	}
}

// P7.2: names that are made anew may be, however long those were that they are in the place of.
func TestNewNamesMayBe(t *testing.T) {
	long := strings.Repeat("n", api.MaxSource)
	e := read("(\\ y -> (let a = (x y) in (case y of Cons b c -> (a b c x); d -> d)))")
	got := core.Subst(renamedAll(e, long), "x", variable(long))
	if err := core.CheckExpr(api.Prog{Cons: cons()}, got, []string{long}); err != api.OK {
		t.Errorf("what comes may not be: %v", err)
	}
	if got := core.Free(got); !slices.Equal(got, []string{long}) {
		t.Errorf("%d names are free", len(got))
	}
}

// renamedAll is an expression with y called otherwise.
func renamedAll(e api.Expr, name string) api.Expr {
	e = core.Copy(e)
	e.Params[0] = name
	e.Args[0].Binds[0].E.Args[1].Name = name
	e.Args[0].Args[0].Args[0].Name = name
	return e
}

// P7.2: what comes may be greater and deeper than what Size tells of.
func TestSubstThatComesTooGreat(t *testing.T) {
	deep := core.Subst(testkit.Nested(api.MaxNest, variable("y")), "y", read("(f 1)"))
	for range api.MaxNest - 1 {
		deep = deep.Args[0]
	}
	if core.Text(deep) != "(f 1)" {
		t.Errorf("at the bottom is %s", core.Text(deep))
	}
	x := variable("x")
	wide := api.Expr{Kind: api.ExApp, Args: many(1000, x)}
	for _, by := range []api.Expr{testkit.Tree(api.MaxNodes / 1000), testkit.Tree(api.MaxNodes/1000 + 1), testkit.Tree(api.MaxNodes / 100), testkit.Tree(api.MaxNodes)} {
		got := core.Subst(wide, "x", by)
		for i := range got.Args {
			if i%333 < 2 && !core.Same(got.Args[i], by) {
				t.Errorf("part %d of what is too great is another one", i)
			}
		}
		if core.Size(by) > api.MaxNodes/1000 && core.Size(got) != 0 || len(got.Args) != 1000 {
			t.Errorf("%d parts", len(got.Args))
		}
	}
}

// P7.4: over expressions made by chance.
func TestWhatFollows(t *testing.T) {
	make := byChance(7)
	for range 6000 {
		e, by := make.Expr(1+make.Chance.Intn(5)), make.Expr(1+make.Chance.Intn(3))
		name := make.Names[make.Chance.Intn(len(make.Names))]
		other, otherBy := alphaChanged(make, e), alphaChanged(make, by)
		if !core.Same(e, e) || !core.Same(e, other) || !core.Same(other, e) || !core.Same(by, otherBy) {
			t.Fatalf("Same of %s and %s, %s and %s", core.Text(e), core.Text(other), core.Text(by), core.Text(otherBy))
		}
		got := core.Subst(e, name, by)
		if again := core.Subst(other, name, otherBy); !core.Same(got, again) {
			t.Fatalf("Subst of %s, %s by %s: %s, of what is the same: %s", core.Text(e), name, core.Text(by), core.Text(got), core.Text(again))
		}
		checkFreeOfSubst(t, e, name, by, got)
		if core.CheckExpr(api.Prog{Cons: cons()}, got, make.Names) != api.OK {
			t.Fatalf("Subst of %s, %s by %s may not be: %s", core.Text(e), name, core.Text(by), core.Text(got))
		}
	}
}

func checkFreeOfSubst(t *testing.T, e api.Expr, name string, by, got api.Expr) {
	t.Helper()
	want := core.Free(e)
	if i, free := slices.BinarySearch(want, name); free {
		want = append(slices.Delete(want, i, i+1), core.Free(by)...)
		slices.Sort(want)
		want = slices.Compact(want)
	} else if !reflect.DeepEqual(got, e) {
		t.Fatalf("Subst of %s, %s changes it: %s", core.Text(e), name, core.Text(got))
	}
	if free := core.Free(got); !slices.Equal(free, want) {
		t.Fatalf("Free of Subst of %s, %s by %s: %q instead of %q", core.Text(e), name, core.Text(by), free, want)
	}
}

// P7.4: Same goes on from one to the next: those of one nameless form are all the same, and no others.
func TestSameIsAnEquivalence(t *testing.T) {
	make := byChance(8)
	make.Names = []string{"x", "y"}
	var l []api.Expr
	var forms []string
	for range 300 {
		e := make.Expr(2 + make.Chance.Intn(2))
		l = append(l, e, alphaChanged(make, e))
		forms = append(forms, nameless(e), nameless(e))
	}
	for i, a := range l {
		for j, b := range l {
			if core.Same(a, b) != (forms[i] == forms[j]) {
				t.Fatalf("Same of %s and %s: %v", core.Text(a), core.Text(b), core.Same(a, b))
			}
		}
	}
}

// alphaChanged is an expression with some bound variables called otherwise, by chance: names of a number that stand nowhere else.
func alphaChanged(make testkit.Exprs, e api.Expr) api.Expr {
	last := 0
	var change func(e api.Expr, called map[string]string) api.Expr
	change = func(e api.Expr, called map[string]string) api.Expr {
		e = core.Copy(e)
		call := func(called map[string]string, names []string) map[string]string {
			inner := map[string]string{}
			for k, v := range called {
				inner[k] = v
			}
			for i, name := range names {
				inner[name] = name
				if make.Chance.Intn(2) == 0 {
					last++
					inner[name] = "w" + strings.Repeat("w", last)
				}
				names[i] = inner[name]
			}
			return inner
		}
		called = call(called, e.Params)
		var names []string
		for _, b := range e.Binds {
			names = append(names, b.Name)
		}
		called = call(called, names)
		for i := range e.Binds {
			e.Binds[i] = api.Bind{Name: names[i], E: change(e.Binds[i].E, called)}
		}
		for i := range e.Args {
			e.Args[i] = change(e.Args[i], called)
		}
		for i := range e.Alts {
			inner := call(called, e.Alts[i].Vars)
			e.Alts[i].E = change(e.Alts[i].E, inner)
		}
		if name, bound := called[e.Name]; bound && e.Kind == api.ExVar {
			e.Name = name
		}
		return e
	}
	return change(e, nil)
}
