package simpl_test

import (
	"fmt"
	"testing"

	"thunkmill/api"
	"thunkmill/core"
	"thunkmill/simpl"
	"thunkmill/testkit"
)

// P17.2: passes that end by themselves.
func TestPassToTheEnd(t *testing.T) {
	for _, c := range []struct {
		e, want string
		n       int
	}{
		{"1", "1", 0},
		{"x", "x", 0},
		{"(f 1)", "(f 1)", 0},
		{"(#quot 1 0)", "(#quot 1 0)", 0},
		{"(let x = (f x) in (x x))", "(let x = (f x) in (x x))", 0},
		{"(#add (#mul 2 3) (#sub 4 5))", "5", 3},
		{"(((f 1) 2) 3)", "(f 1 2 3)", 2},
		{"((\\ x y -> (x y)) f 1)", "(f 1)", 3},
		{"((\\ x -> (\\ y -> (#add x y))) 1 2)", "3", 6},
		{"(let id = (\\ x -> x) in (id 5))", "5", 3},
		{"(case (case (Cons 1 (Nil)) of Cons a b -> (False); Nil -> (True)) of True -> 1; False -> 2)", "2", 5},
		{"(let p = (Pair 1 2) in (case p of Pair a b -> (#add a b)))", "3", 5},
		{"(\\ x -> (case (#eq 1 2) of True -> x; False -> (#seq x (x 1))))", "(\\ x -> (#seq x (x 1)))", 2},
		{"(f (case (let x = (g 1) in (x x)) of y -> 3))", "(f (let x = (g 1) in (case (x x) of _ -> 3)))", 2},
		{"(let x = (f 1) in (case (Cons x x) of Nil -> x; _ -> 2))", "2", 2},
		{"(let x = (f 1) in (case 3 of 4 -> x; _ -> (#seq (Cons x x) 2)))", "2", 3},
		{"((\\ x -> (x x)) (\\ x -> (x x)))", "(let x = (\\ x -> (x x)) in (x x))", 1},
		// Names that would be caught, again and again.
		{"(\\ y -> ((\\ x y -> (x y)) y))", "(\\ y -> ((\\ x z -> (x z)) y))", 0},
		{"(\\ y -> ((\\ x -> (\\ y -> (x y))) y))", "(\\ y -> (\\ z -> (y z)))", 2},
		{"(\\ y -> ((\\ x -> (\\ y -> ((\\ x -> (\\ y -> (x y))) (x y)))) y))", "(\\ y -> (\\ z -> (let x = (y z) in (\\ w -> (x w)))))", 3},
	} {
		for _, most := range []int{c.n, c.n + 1, api.MaxRewrites} {
			passIs(t, read(c.e), most, c.want, c.n)
		}
	}
}

// P17.2: where nothing is rewritten, it is what it was, with its names.
func TestPassOfNothing(t *testing.T) {
	for _, e := range madeExprs(179, 100, 6) {
		if got, n := passed(t, e, 0); core.Text(got) != core.Text(e) || n != 0 {
			t.Errorf("Pass of %s, 0: %s, %d", brief(e), brief(got), n)
		}
	}
	text := "(\\ x -> (f (\\ x -> (x f)) (let x = (f x) in (x v1)) (let x = (f 1) in (\\ v1 -> x))))"
	for _, most := range []int{0, 1, api.MaxRewrites} {
		if got, n := passed(t, read(text), most); core.Text(got) != text || n != 0 {
			t.Errorf("Pass of %s, %d: %s, %d", text, most, brief(got), n)
		}
	}
}

// P17.2: a pass takes the first position at which a rule applies, from the beginning on each time, and there the first rule.
func TestPassInOrder(t *testing.T) {
	for _, steps := range [][]string{
		// Positions.
		{"(f (#add 1 2) (#add 3 4))", "(f 3 (#add 3 4))", "(f 3 7)"},
		{"(let x = 1 in (x (#add 2 3)))", "(1 (#add 2 3))", "(1 5)"},
		{"(case (#add 1 2) of 3 -> (#add 4 5); _ -> (#add 6 7))", "(case 3 of 3 -> (#add 4 5); _ -> (#add 6 7))", "(#add 4 5)", "9"},
		{"(#add (#add 1 (#add 2 3)) (#add 4 5))", "(#add (#add 1 5) (#add 4 5))", "(#add 6 (#add 4 5))", "(#add 6 9)", "15"},
		{"(let x = (#add 1 2); y = (f x y) in (x y (#add 3 4)))", "(let x = 3; y = (f x y) in (x y (#add 3 4)))", "(let y = (f 3 y) in (3 y (#add 3 4)))", "(let y = (f 3 y) in (3 y 7))"},
		{"(let x = (f (#add 1 2)) in (\\ y -> (#seq 4 (x (\\ z -> x)))))", "(let x = (f 3) in (\\ y -> (#seq 4 (x (\\ z -> x)))))", "(let x = (f 3) in (\\ y -> (x (\\ z -> x))))"},
		{"(let x = (f 1) in (x (#seq 2 (#seq x 3))))", "(let x = (f 1) in (x (#seq x 3)))"},
		// What becomes of a part may let a rule apply around it.
		{"(f (g (let x = (f 2) in (#seq 1 x))))", "(f (g (#seq 1 (f 2))))", "(f (g (f 2)))"},
		{"(let x = (f 2) in (\\ y -> (#seq (\\ z -> x) (#add 1 2))))", "(let x = (f 2) in (\\ y -> (#add 1 2)))", "(\\ y -> (#add 1 2))", "(\\ y -> 3)"},
		{"(let x = (f 2) in ((\\ y -> (x y)) (#add 3 4)))", "(let x = (f 2) in (let y = (#add 3 4) in (x y)))", "(let y = (#add 3 4) in ((f 2) y))", "((f 2) (#add 3 4))", "(f 2 (#add 3 4))", "(f 2 7)"},
		{"(let x = (f 2) in (case y of 1 -> x; _ -> (case 1 of 1 -> 2; _ -> x)))", "(let x = (f 2) in (case y of 1 -> x; _ -> 2))", "(case y of 1 -> (f 2); _ -> 2)"},
		// Rules.
		{"(let x = 1; y = (f y) in (x x))", "(let y = (f y) in (1 1))"},
		{"(let x = 1; y = (f 2) in (x x))", "(let x = 1 in (x x))", "(1 1)"},
		{"(case 1 of x -> 2)", "(let x = 1 in 2)", "2"},
		{"(case (case (f 1) of 1 -> 2) of x -> 3)", "(case (f 1) of 1 -> (case 2 of x -> 3))", "(case (f 1) of 1 -> (let x = 2 in 3))", "(case (f 1) of 1 -> 3)"},
		{"(case (let x = (f 1) in (x x)) of y -> 3)", "(let x = (f 1) in (case (x x) of y -> 3))", "(let x = (f 1) in (case (x x) of _ -> 3))"},
	} {
		last := len(steps) - 1
		for most := range last + 3 {
			n := min(most, last)
			passIs(t, read(steps[0]), most, steps[n], n)
		}
	}
}

// P17.2: a pass of as many rewritings as one may have, and of one more.
func TestMostOfAll(t *testing.T) {
	for n := api.MaxRewrites; n <= api.MaxRewrites+1; n++ {
		e := api.Expr{Kind: api.ExLet, Args: list(number(1))}
		for i := range n {
			e.Binds = append(e.Binds, api.Bind{Name: fmt.Sprint("x", i), E: variable("y")})
		}
		want := number(1)
		if n > api.MaxRewrites {
			want = api.Expr{Kind: api.ExLet, Binds: e.Binds[api.MaxRewrites:], Args: e.Args}
		}
		got, done := passed(t, e, api.MaxRewrites)
		if !core.Same(got, want) || done != min(n, api.MaxRewrites) {
			t.Errorf("%d dead bindings: %s, %d", n, brief(got), done)
		}
		p := api.Prog{Cons: testkit.Cons(), Binds: []api.Bind{{Name: "main", E: e}, {Name: "y", E: e}}}
		q := api.Prog{Cons: testkit.Cons(), Binds: []api.Bind{{Name: "main", E: want}, {Name: "y", E: want}}}
		programIs(t, p, api.MaxRewrites, q, 2*done)
	}
}

// growing is an expression to which rules apply so often: a chain of sums.
func growing(n int) api.Expr {
	e := number(0)
	for range n {
		e = api.Expr{Kind: api.ExPrim, Name: "add", Args: list(number(1), e)}
	}
	return e
}

// wide is an application with so many sums.
func wide(n int) api.Expr {
	e := variable("f")
	for n > 0 {
		m := min(n, 32)
		args := list(e)
		for range m {
			args = append(args, read("(#add 1 2)"))
		}
		e, n = api.Expr{Kind: api.ExCon, Name: "Any", Args: args}, n-m
	}
	return e
}

// P17.2: at most most rewritings, whatever most is.
func TestMost(t *testing.T) {
	e := wide(400)
	for _, most := range []int{0, 1, 2, 31, 32, 33, 399, 400, 401, api.MaxRewrites} {
		got, n := passed(t, e, most)
		if done := min(most, 400); n != done || core.Size(got) != core.Size(e)-2*done {
			t.Errorf("most %d: %d rewritings, %d expressions of %d", most, n, core.Size(got), core.Size(e))
		}
	}
	if got, n := passed(t, growing(900), 899); n != 899 || core.Text(got) != "(#add 1 899)" {
		t.Errorf("%d: %s", n, brief(got))
	}
	if got, n := passed(t, growing(900), 901); n != 900 || core.Text(got) != "900" {
		t.Errorf("%d: %s", n, brief(got))
	}
}

// programIs holds Program to what comes.
func programIs(t *testing.T, p api.Prog, most int, want api.Prog, n int) {
	t.Helper()
	got, done, err := simpl.Program(p, most)
	if err != api.OK || done != n || !core.SameProg(got, want) {
		t.Errorf("Program of %.900s, %d: %.900s, %d, error %d; want %.900s, %d", core.ProgText(p), most, core.ProgText(got), done, err, core.ProgText(want), n)
	}
}

// P17.2: each of a program's bindings has its own pass.
func TestProgram(t *testing.T) {
	p := testkit.Prog("a = (#add 1 (#add 2 3))", "b = (f (\\ y -> y))", "c = (case (Cons 1 (Nil)) of Cons x y -> (#putc x); Nil -> a)", "f = (\\ x -> ((\\ y -> (y x)) f))", "main = (#bind ((\\ x y -> (#ret x)) 1 2) f)")
	for most, lines := range [][]string{
		{"a = (#add 1 (#add 2 3))", "c = (case (Cons 1 (Nil)) of Cons x y -> (#putc x); Nil -> a)", "f = (\\ x -> ((\\ y -> (y x)) f))", "main = (#bind ((\\ x y -> (#ret x)) 1 2) f)"},
		{"a = (#add 1 5)", "c = (let x = 1; y = (Nil) in (#putc x))", "f = (\\ x -> (let y = f in (y x)))", "main = (#bind (let x = 1; y = 2 in (#ret x)) f)"},
		{"a = 6", "c = (let x = 1 in (#putc x))", "f = (\\ x -> (f x))", "main = (#bind (let x = 1 in (#ret x)) f)"},
		{"a = 6", "c = (#putc 1)", "f = (\\ x -> (f x))", "main = (#bind (#ret 1) f)"},
		{"a = 6", "c = (#putc 1)", "f = (\\ x -> (f x))", "main = (#bind (#ret 1) f)"},
	} {
		want := testkit.Prog(append(lines, "b = (f (\\ y -> y))")...)
		programIs(t, p, most, want, []int{0, 4, 8, 10, 10}[most])
	}
	programIs(t, p, api.MaxRewrites, testkit.Prog("a = 6", "b = (f (\\ y -> y))", "c = (#putc 1)", "f = (\\ x -> (f x))", "main = (#bind (#ret 1) f)"), 10)
	programIs(t, testkit.Prog("main = (#ret 1)"), 10, testkit.Prog("main = (#ret 1)"), 0)
}

// P17.2: a binding's name is no let's: what another one is counts nothing.
func TestProgramAcross(t *testing.T) {
	for _, l := range [][]string{
		{"a = 1", "main = (#ret a)"},
		{"f = (\\ x -> x)", "main = (#ret (f 1))"},
		{"a = (b 1)", "b = a", "main = a"},
		{"main = (case main of x -> x)"},
		{"main = main"},
	} {
		p := testkit.Prog(l...)
		programIs(t, p, api.MaxRewrites, p, 0)
	}
	// A let's name hides a binding's.
	programIs(t, testkit.Prog("a = (b 1)", "b = (let a = 2 in (a b))", "main = (let main = 3 in main)"), 9, testkit.Prog("a = (b 1)", "b = (2 b)", "main = 3"), 2)
	// A binding's name is not caught.
	programIs(t, testkit.Prog("a = (let x = a in (\\ a -> (x a)))", "main = ((\\ main -> (a main)) main)"), 9, testkit.Prog("a = (\\ y -> (a y))", "main = (a main)"), 3)
}

// P17.2: a program does a pass over each binding's expression, with the rewritings of all together.
func TestProgramIsPasses(t *testing.T) {
	m := seeded(177)
	for range 800 {
		p := m.Program()
		for _, most := range []int{0, 1, 7, 1000} {
			want, n := api.Prog{Cons: p.Cons}, 0
			for _, b := range p.Binds {
				e, done := passed(t, b.E, most)
				want.Binds, n = append(want.Binds, api.Bind{Name: b.Name, E: e}), n+done
			}
			programIs(t, p, most, want, n)
		}
		if t.Failed() {
			return
		}
	}
}
