package prep_test

import (
	"fmt"
	"slices"
	"testing"

	"thunkmill/api"
	"thunkmill/core"
	"thunkmill/prep"
	"thunkmill/testkit"
)

// P18.1: names that are bound twice, in one scope after another and in one within the other, by lambdas, lets and alternatives; names of bindings that are bound; each variable stays what it was.
func TestNamesBoundTwice(t *testing.T) {
	for _, text := range []string{
		"(f x (\\ x -> x) x)", "(\\ x -> (f x (\\ x -> x) x))", "(\\ x y -> (f (\\ y -> (x y)) (\\ x -> (x y)) (x y)))", "(\\ x -> (\\ x -> (\\ x -> x)))", "((\\ x -> x) (\\ x -> x) (\\ x -> x))",
		"(let x = 1 in (f x (let x = 2 in x) x))", "(let x = (let x = x in (f x)) in x)", "(let x = y; y = x in (let y = x; x = y in (f x y)))", "(f (let x = 1 in x) (let x = 2 in x) x)",
		"(case x of Cons x y -> (f x y); x -> x)", "(case (case x of x -> x) of x -> (f x (case x of x -> x)))", "(case x of Cons a b -> (case b of Cons a b -> (f a b); a -> (f a b)); b -> b)", "(case x of Blue x -> x; Red -> x; Green -> x)",
		"(\\ x -> (let x = x in (case x of x -> x)))", "(let x = (\\ x -> x) in (case (x 1) of Cons x y -> x; y -> (x y)))", "(case x of x -> (\\ x -> (let x = 1 in x)))",
		"(\\ main -> main)", "(let main = 1 in main)", "(case main of main -> (main main))", "(f (\\ f -> f) (\\ g -> (g f)))", "(f g (\\ f -> (\\ g -> (f g h))))", "(let f = (g h); h = (f g) in (\\ g -> (f g h)))", "((\\ f -> f) (\\ x -> (f x)))",
	} {
		e := read(text)
		p := program(e)
		if q := prepared(t, p); !core.SameProg(q, refProg(p)) {
			t.Errorf("Prep of %s: %s", text, core.Text(mainOf(q)))
		}
		if prep.Prepared(p) {
			t.Errorf("Prepared of %s", text)
		}
	}
}

// P18.1: a name that is bound in two bindings.
func TestNamesBoundInTwoBindings(t *testing.T) {
	for _, text := range []string{"(\\ x -> x)", "(let x = 1 in x)", "(case 1 of x -> x)", "(case 1 of Cons x y -> y)"} {
		p := testkit.Prog("a = "+text, "b = "+text, "main = (\\ x -> (a b))")
		if q := prepared(t, p); !core.SameProg(q, p) || prep.Prepared(p) {
			t.Errorf("Prep of %s: %s", brief(p), brief(q))
		}
	}
}

// holding has many names to be bound, and many expressions to be bound by new ones.
func holding(bound []string) api.Expr {
	e := read("(f (g (h (Nil))) (g 1) (Cons (g 2) (Nil)))")
	for _, name := range bound {
		e = api.Expr{Kind: api.ExApp, Args: list(e, variable(name), api.Expr{Kind: api.ExLam, Params: []string{name}, Args: list(variable(name))})}
	}
	return api.Expr{Kind: api.ExLam, Params: bound, Args: list(e)}
}

// P18.1: names that were new for one program are names of another one, bound ones and those of its bindings.
func TestNewNamesAreUnlikeAll(t *testing.T) {
	bound := []string{"a", "b", "c", "d", "e"}
	e := holding(bound)
	for range 20 {
		p := program(e)
		q := prepared(t, p)
		if !core.SameProg(q, refProg(p)) {
			t.Fatalf("Prep of %s: %s", brief(p), brief(q))
		}
		made := prep.Names(q)
		made = made[:min(len(made), api.MaxParams)]
		// They are bound now, then names of bindings, then both.
		for _, next := range []api.Expr{holding(made), unbound(holding(made)), application(holding(made), unbound(holding(made)))} {
			p := program(next)
			if q := prepared(t, p); !core.SameProg(q, refProg(p)) {
				t.Fatalf("Prep of %s: %s", brief(p), brief(q))
			}
		}
		e = application(holding(made), unbound(holding(made)))
	}
}

// unbound is a lambda's body, where its names are free.
func unbound(lam api.Expr) api.Expr { return lam.Args[0] }

func application(l ...api.Expr) api.Expr { return api.Expr{Kind: api.ExApp, Args: l} }

// P18.1: names that look like those that programs make, whatever letter they begin with, are there from 0 on, bound or as bindings.
func TestNamesThatLookNew(t *testing.T) {
	for _, letter := range []string{"v", "x", "a", "n", "p", "t", "u", "~", "%", "%v", "_", "", "v0", "$", "'"} {
		for _, deep := range []int{5, 40} {
			var names []string
			for i := range deep {
				names = append(names, fmt.Sprint(letter, i))
			}
			e := api.Expr{Kind: api.ExCon, Name: "Pair", Args: list(layered(names), application(variable(names[0]), layered(names)))}
			for _, name := range names {
				e = application(e, variable(name))
			}
			p := program(e)
			if q := prepared(t, p); !core.SameProg(q, refProg(p)) {
				t.Fatalf("Prep of %s: %s", brief(p), brief(q))
			}
		}
	}
}

// layered are lambdas in each other, each with an argument that must be bound.
func layered(names []string) api.Expr {
	e := read("(Cons (f 1) (Nil))")
	for i, name := range names {
		e = application(api.Expr{Kind: api.ExLam, Params: []string{name}, Args: list(e)}, application(variable(name), number(int64(i))))
	}
	return e
}

// P18.2: Names of bound names of each kind, rising, each once.
func TestNames(t *testing.T) {
	for text, want := range map[string][]string{
		"1": nil, "(f x)": nil, "(f (Nil) (#add 1 2))": nil, "(case x of Nil -> 1; _ -> 2)": nil,
		"(\\ b a -> c)":                                                   {"a", "b"},
		"(let d = 1; b = 2 in c)":                                         {"b", "d"},
		"(case 1 of Cons b a -> c; d -> e)":                               {"a", "b", "d"},
		"(\\ x -> (\\ x -> x))":                                           {"x"},
		"(f (\\ x -> x) (let x = 1 in x) (case 1 of x -> x))":             {"x"},
		"(\\ main -> main)":                                               {"main"},
		"(let u = (\\ t -> 1) in (\\ s -> 2))":                            {"s", "t", "u"},
		"(case (\\ z -> z) of Cons y x -> (\\ w -> w); v -> (\\ u -> u))": {"u", "v", "w", "x", "y", "z"},
		"(Cons (\\ a -> a) (Cons (\\ B -> b) (Nil)))":                     {"B", "a"},
		"(#add (\\ a2 -> 1) (\\ a10 -> 1))":                               {"a10", "a2"},
		"((\\ c -> c) (\\ a -> (f (\\ b -> b))) (let z = (let y = (\\ q -> q) in y) in (let x = z in x)))": {"a", "b", "c", "q", "x", "y", "z"},
	} {
		if got := prep.Names(program(read(text))); !slices.Equal(got, want) {
			t.Errorf("Names of %s: %q, want %q", text, got, want)
		}
	}
	p := testkit.Prog("a = (\\ z y -> 1)", "b = 1", "c = (let y = 1; x = 2 in 3)", "main = (case 1 of z -> a)")
	if got := prep.Names(p); !slices.Equal(got, []string{"x", "y", "z"}) {
		t.Errorf("Names of %s: %q", brief(p), got)
	}
}

// P18.2: the names that are unlike in a prepared program: those of all its bindings, and theirs.
func TestPrepared(t *testing.T) {
	for _, lines := range [][]string{
		{"main = 1"}, {"main = (\\ x -> x)"}, {"a = (\\ x -> x)", "main = (\\ y -> y)"}, {"a = main", "main = (a 1)"},
		{"a = (let x = 1; y = 2 in (case x of Cons z w -> (\\ v -> v); u -> u))", "main = (a a)"},
	} {
		if p := testkit.Prog(lines...); !prep.Prepared(p) {
			t.Errorf("Prepared of %s: false", brief(p))
		}
	}
	for _, lines := range [][]string{
		{"main = (\\ main -> 1)"}, {"main = (let main = 1 in 2)"}, {"main = (case 1 of main -> 1)"}, {"main = (case 1 of Cons main x -> 1)"},
		{"a = 1", "main = (\\ a -> 1)"}, {"a = (\\ main -> 1)", "main = 1"}, {"a = (\\ z -> 1)", "main = 1", "z = 1"}, {"a = 1", "main = (\\ z -> 1)", "z = 1"},
		{"a = (\\ x -> x)", "main = (\\ x -> x)"}, {"a = (let x = 1 in x)", "main = (case 1 of x -> x)"},
		{"main = (\\ x -> (\\ x -> x))"}, {"main = ((\\ x -> x) (case 1 of x -> x))"}, {"main = (let x = (\\ x -> x) in x)"}, {"main = (let x = 1 in (\\ x -> x))"},
		{"main = (case 1 of Cons x y -> 1; y -> 2)"}, {"main = (case 1 of Blue x -> 1; x -> 2)"}, {"main = (case (\\ x -> x) of x -> 2)"}, {"main = (case 1 of 1 -> (\\ x -> x); 2 -> (\\ x -> x))"}, {"main = (#add (\\ x -> x) (\\ x -> x))"},
		{"main = (a (Nil))", "a = 1"}, {"a = (Cons 1 (Nil))", "main = 1"}, {"main = 1", "z = (\\ x -> (z (x x)))"}, {"main = (#ret (#add 1 2))"},
	} {
		if p := testkit.Prog(lines...); prep.Prepared(p) {
			t.Errorf("Prepared of %s: true", brief(p))
		}
	}
}

// P18.2: two of a program's names are alike, wherever they are bound.
func TestPreparedOfTwoAlike(t *testing.T) {
	m := seeded(183)
	told := 0
	for range 600 {
		p := prepared(t, m.Program())
		bound := prep.Names(p)
		if len(bound) == 0 {
			continue
		}
		all := append(slices.Clone(bound), namesOf(p)...)
		old, name := bound[m.Chance.Intn(len(bound))], all[m.Chance.Intn(len(all))]
		q := api.Prog{Cons: p.Cons}
		for _, b := range p.Binds {
			q.Binds = append(q.Binds, api.Bind{Name: b.Name, E: relabelled(b.E, old, name)})
		}
		if core.Check(q) != api.OK { // one let or alternative binds both
			continue
		}
		told++
		if prep.Prepared(q) != (old == name) {
			t.Fatalf("Prepared of %s, where %s is %s: %v", brief(q), old, name, prep.Prepared(q))
		}
	}
	if told < 300 {
		t.Errorf("it is asked of %d programs only", told)
	}
}

// relabelled is an expression where a name is another one wherever it stands.
func relabelled(e api.Expr, old, name string) api.Expr {
	e = core.Copy(e)
	relabel(&e, old, name)
	return e
}

func relabel(e *api.Expr, old, name string) {
	to := func(s *string) {
		if *s == old {
			*s = name
		}
	}
	if e.Kind == api.ExVar {
		to(&e.Name)
	}
	for i := range e.Params {
		to(&e.Params[i])
	}
	for i := range e.Binds {
		to(&e.Binds[i].Name)
		relabel(&e.Binds[i].E, old, name)
	}
	for i := range e.Args {
		relabel(&e.Args[i], old, name)
	}
	for i := range e.Alts {
		for j := range e.Alts[i].Vars {
			to(&e.Alts[i].Vars[j])
		}
		relabel(&e.Alts[i].E, old, name)
	}
}
