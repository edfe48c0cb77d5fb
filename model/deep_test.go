package model_test

import (
	"fmt"
	"strings"
	"testing"

	"thunkmill/api"
	"thunkmill/core"
)

// Run: what goes deep, as deep as there is fuel, does not end the program.
func TestDeepRuns(t *testing.T) {
	for what, main := range map[string]string{
		"arguments of a primitive": "(f 0)",
		"a case within a case":     "(c 0)",
		"cells that need others":   "(t 0)",
		"functions to be applied":  "(a 0)",
		"seq within seq":           "(s 0)",
		"show within":              "(w 0)",
		"an error's text":          "(e 0)",
		"actions on the left":      "(l 0)",
		"actions that are made":    "(m (#ret 1))",
		"actions on the right":     "(r 0)",
		"parts of a list":          "(case (p 0) of Cons x y -> (last y))",
		"arguments without an end": "(more (\\ x -> x))",
	} {
		p := prog("main = "+main,
			"f = (\\ n -> (#add 1 (f n)))",
			"c = (\\ n -> (case (c n) of 0 -> 1; _ -> 2))",
			"t = (\\ n -> (let x = (t n) in (case x of 0 -> x; _ -> x)))",
			"a = (\\ n -> ((a n) n))",
			"s = (\\ n -> (#seq (s n) 1))",
			"w = (\\ n -> (#show (w n)))",
			"e = (\\ n -> (#error (e n)))",
			"l = (\\ n -> (#bind (l n) (\\ x -> (#ret x))))",
			"m = (\\ b -> (m (#bind b (\\ x -> (#ret x)))))",
			"r = (\\ n -> (#bind (#ret n) (\\ x -> (r x))))",
			"p = (\\ n -> (Cons n (p n)))",
			"last = (\\ l -> (case l of Nil -> 1; Cons x y -> (#seq (last y) x)))",
			"more = (\\ g -> (more (\\ x -> (g x))))")
		for _, fuel := range []int{1000, api.MaxFuel - 1, api.MaxFuel} {
			if got := ran(t, p, "", false, fuel); told(got) != fmt.Sprint("fuel in ", fuel) {
				t.Errorf("%s, fuel %d: %s", what, fuel, told(got))
			}
		}
	}
}

// Run: what was gone deep for comes back.
func TestDeepResults(t *testing.T) {
	lines := []string{
		"down = (\\ n -> (case n of 0 -> 0; _ -> (#add 1 (down (#sub n 1)))))",
		"sum = (\\ n s -> (case n of 0 -> s; _ -> (sum (#sub n 1) (#add s n))))",
		"times = (\\ n f x -> (case n of 0 -> x; _ -> (times (#sub n 1) f (f x))))",
		"left = (\\ n -> (case n of 0 -> (#ret 0); _ -> (#bind (left (#sub n 1)) (\\ x -> (let y = (#add x 1) in (#seq y (#ret y)))))))",
		"right = (\\ n s -> (case n of 0 -> (#exit s); _ -> (#bind (#ret (#add s 1)) (\\ x -> (#seq x (right (#sub n 1) x))))))",
		"fill = (\\ n l -> (case n of 0 -> l; _ -> (fill (#sub n 1) (Cons n l))))",
		"add = (\\ l -> (case l of Nil -> 0; Cons x y -> (#add x (add y))))",
		"comp = (\\ n g -> (case n of 0 -> g; _ -> (comp (#sub n 1) (\\ x -> (g (#add x 1))))))",
	}
	p := prog(append(lines, "main = 1")...)
	for text, want := range map[string]string{
		"(down 70000)":                         "70000",
		"(sum 70000 0)":                        "2450035000",
		"(times 60000 (\\ x -> (#add x 2)) 1)": "120001",
		"(add (fill 40000 (Nil)))":             "800020000",
		"(comp 50000 (\\ x -> x) 5)":           "50005",
	} {
		got := evaluated(t, p, read(text), api.MaxFuel)
		if got.Kind != api.EndValue || got.Text != want {
			t.Errorf("%s: %s, want %s", text, told(got), want)
		}
		if again := evaluated(t, p, read(text), got.Steps); !same(got, again) {
			t.Errorf("%s with just enough fuel: %s, want %s", text, told(again), told(got))
		}
		if less := evaluated(t, p, read(text), got.Steps-1); less.Kind != api.EndFuel {
			t.Errorf("%s with one step less: %s", text, told(less))
		}
	}
	for main, want := range map[string]int{
		"(#bind (left 40000) (\\ x -> (#exit (#quot x 1000))))": 40,
		"(right 50001 0)": 50001 % 256,
		"(#bind (times 30000 (\\ m -> (#bind m (\\ x -> (#ret (#add x 1))))) (#ret 0)) (\\ x -> (#exit (#quot x 1000))))": 30,
	} {
		if got := ran(t, prog(append(lines, "main = "+main)...), "", false, api.MaxFuel); got.Kind != api.EndExit || got.Code != want {
			t.Errorf("%s: %s, want exit %d", main, told(got), want)
		}
	}
}

// A loop of a great many cells, and one through a great many functions.
func TestDeepLoops(t *testing.T) {
	const n = 30000
	lines := []string{"main = x0"}
	for i := range n {
		lines = append(lines, fmt.Sprintf("x%d = (#add 1 x%d)", i, (i+1)%n))
	}
	if got := told(ran(t, prog(lines...), "", false, api.MaxFuel)); got != fmt.Sprint("loop in ", 1+3*n) {
		t.Errorf("%s", got)
	}
}

// within is an expression in so many others.
func within(n int, e api.Expr, around func(e api.Expr) api.Expr) api.Expr {
	for range n {
		e = around(e)
	}
	return e
}

// P15.1, P15.2: expressions that are nested MaxNest deep, by each kind.
func TestNestedExpressions(t *testing.T) {
	x := read("x")
	for what, around := range map[string]func(e api.Expr) api.Expr{
		"let": func(e api.Expr) api.Expr {
			return api.Expr{Kind: api.ExLet, Binds: []api.Bind{{Name: "y", E: x}}, Args: []api.Expr{e}}
		},
		"binding": func(e api.Expr) api.Expr {
			return api.Expr{Kind: api.ExLet, Binds: []api.Bind{{Name: "y", E: e}}, Args: []api.Expr{read("y")}}
		},
		"case": func(e api.Expr) api.Expr {
			return api.Expr{Kind: api.ExCase, Args: []api.Expr{e}, Alts: []api.Alt{{Kind: api.AltElse, Vars: []string{"y"}, E: read("y")}}}
		},
		"branch": func(e api.Expr) api.Expr {
			return api.Expr{Kind: api.ExCase, Args: []api.Expr{x}, Alts: []api.Alt{{Kind: api.AltElse, Vars: []string{"y"}, E: e}}}
		},
		"primitive": func(e api.Expr) api.Expr {
			return api.Expr{Kind: api.ExPrim, Name: "add", Args: []api.Expr{read("0"), e}}
		},
		"seq":      func(e api.Expr) api.Expr { return api.Expr{Kind: api.ExPrim, Name: "seq", Args: []api.Expr{e, x}} },
		"argument": func(e api.Expr) api.Expr { return api.Expr{Kind: api.ExApp, Args: []api.Expr{read("(\\ y -> y)"), e}} },
	} {
		e := within(api.MaxNest-2, x, around)
		p := prog("main = 1", "x = 5")
		if no := core.CheckExpr(p, e, nil); no != api.OK {
			t.Fatalf("%s: error %d", what, no)
		}
		got := evaluated(t, p, e, api.MaxFuel)
		if got.Kind != api.EndValue || got.Text != "5" || got.Steps < api.MaxNest-2 {
			t.Errorf("%s: %s", what, told(got))
		}
	}
}

// A name is found in few leaps from however far within, so that a run of MaxFuel steps comes to its end.
func TestFarNames(t *testing.T) {
	e := read("(let go = (\\ n -> (go (#seq far (#seq n far)))) in (go far))")
	for i := range 4000 {
		e = api.Expr{Kind: api.ExLet, Binds: []api.Bind{{Name: fmt.Sprint("x", i), E: read("far")}}, Args: []api.Expr{e}}
	}
	p := prog("main = 1", "far = 3")
	if got := evaluated(t, p, e, api.MaxFuel); told(got) != fmt.Sprint("fuel in ", api.MaxFuel) {
		t.Errorf("%s", told(got))
	}
}

// many are so many bindings of numbers, by rising name.
func many(n int) []api.Bind {
	l := make([]api.Bind, n)
	for i := range l {
		l[i] = api.Bind{Name: fmt.Sprintf("x%07d", i), E: api.Expr{Kind: api.ExInt, Num: int64(i)}}
	}
	return l
}

// P15.1: great programs: as many expressions as there may be, in bindings, in a let, in a case's alternatives.
func TestGreatPrograms(t *testing.T) {
	p := prog("main = (#exit (#sub x0000300 x0000297))")
	p.Binds = append(p.Binds, many(api.MaxNodes-4)...)
	if got := told(ran(t, p, "", false, api.MaxFuel)); got != "exit 3 in 7" {
		t.Errorf("many bindings: %s", got)
	}
	p.Binds = append(p.Binds, api.Bind{Name: "y", E: read("1")})
	if no := core.Check(p); no != api.ErrLong {
		t.Errorf("they are not as many as there may be: %d", no)
	}
}

// A step takes no longer where there is much that it does not need: a great let, a great case, gone through again and again.
func TestGreatLoops(t *testing.T) {
	const n = 200000
	let := api.Expr{Kind: api.ExLet, Binds: many(n), Args: []api.Expr{read("(go (#seq x0000003 (#seq x0199999 n)))")}}
	choice := read("(case n of x -> (go (#add x 1)))")
	var alts []api.Alt
	for i := range n {
		alts = append(alts, api.Alt{Kind: api.AltInt, Num: int64(n - i), E: read("(go (#add n 1))")})
	}
	choice.Alts = append(alts, choice.Alts...)
	for what, body := range map[string]api.Expr{"let": let, "case": choice} {
		p := prog("main = (go 0)")
		lam := api.Expr{Kind: api.ExLam, Params: []string{"n"}, Args: []api.Expr{body}}
		p.Binds = append([]api.Bind{{Name: "go", E: lam}}, p.Binds...)
		if got := told(ran(t, p, "", false, api.MaxFuel)); got != fmt.Sprint("fuel in ", api.MaxFuel) {
			t.Errorf("a great %s: %s", what, got)
		}
	}
}

// A long name is a name as any other.
func TestLongNames(t *testing.T) {
	name := strings.Repeat("N", api.MaxSource)
	p := prog("main = 1")
	p.Cons = append([]api.Con{{Name: name, Arity: 1, Type: "A"}, {Name: name[1:] + "O", Type: "A", Tag: 1}}, core.Builtin()...)
	one := api.Expr{Kind: api.ExCon, Name: name, Args: []api.Expr{read("4")}}
	e := api.Expr{Kind: api.ExCase, Args: []api.Expr{one}, Alts: []api.Alt{{Kind: api.AltCon, Name: name[1:] + "O", E: read("3")}, {Kind: api.AltCon, Name: name, Vars: []string{"x"}, E: read("x")}}}
	if got := told(evaluated(t, p, e, 100)); got != "value 4 in 4" {
		t.Errorf("a long name: %.60s", got)
	}
	if got := evaluated(t, p, one, 100); got.Kind != api.EndValue || got.Text != name {
		t.Errorf("a long name: %.60s", told(got))
	}
}
