package model_test

import (
	"cmp"
	"fmt"
	"slices"
	"testing"

	"thunkmill/api"
	"thunkmill/core"
	"thunkmill/testkit"
)

// other is a program with other names, but for main's.
func other(n testkit.Namer, p api.Prog) api.Prog {
	in := testkit.Itself([]string{"main"})
	for i, b := range p.Binds {
		if b.Name != "main" {
			in[b.Name] = testkit.Called{Name: "p" + b.Name[len(b.Name)-1:] + fmt.Sprint(len(p.Binds)-i)}
		}
	}
	var l []api.Bind
	for _, b := range p.Binds {
		l = append(l, api.Bind{Name: in[b.Name].Name, E: n.Renamed(b.E, in)})
	}
	slices.SortFunc(l, func(a, b api.Bind) int { return cmp.Compare(a.Name, b.Name) })
	return api.Prog{Cons: p.Cons, Binds: l}
}

// keeping is a program with other names of what is bound within its bindings alone.
func keeping(n testkit.Namer, p api.Prog) api.Prog {
	var names []string
	for _, b := range p.Binds {
		names = append(names, b.Name)
	}
	in := testkit.Itself(names)
	var l []api.Bind
	for _, b := range p.Binds {
		l = append(l, api.Bind{Name: b.Name, E: n.Renamed(b.E, in)})
	}
	return api.Prog{Cons: p.Cons, Binds: l}
}

// P15.6: with other names of bound variables the outcome is the same, and takes as many steps.
func TestOtherNames(t *testing.T) {
	m := seeded(6)
	for i := range 4000 {
		p := m.Program()
		if i%4 == 0 {
			p, _ = m.ByTable()
		}
		input, ended, fuel := m.pick("", "a", "abc"), m.Intn(2) == 0, m.pick2(1500, 1500, 40, 9)
		want := ran(t, p, input, ended, fuel)
		kept := []api.Prog{keeping(testkit.Unlike(), p), keeping(testkit.ByLevel(), p)}
		for _, q := range append(kept, other(testkit.Unlike(), p), other(testkit.ByLevel(), p)) {
			if got := ran(t, q, input, ended, fuel); !same(got, want) {
				t.Fatalf("%s on %q, fuel %d: %s, of %s: %s", core.ProgText(p), input, fuel, told(want), core.ProgText(q), told(got))
			}
		}
		for _, q := range kept {
			if !core.SameProg(p, q) {
				t.Fatalf("the test's own names are wrong: %s, %s", core.ProgText(p), core.ProgText(q))
			}
		}
	}
}

func (m *maker) pick2(l ...int) int { return l[m.Intn(len(l))] }

// P15.6: names that are those of constructors, of primitives, long, or hide one another.
func TestOddNames(t *testing.T) {
	long := string(slices.Repeat([]byte{'n'}, api.MaxSource))
	for _, name := range []string{"Cons", "Nil", "add", "#add", "_", "%no", "main", "1", "'97'", "\\", "->", "let", long} {
		x := api.Expr{Kind: api.ExVar, Name: name}
		body := api.Expr{Kind: api.ExPrim, Name: "exit", Args: []api.Expr{x}}
		lam := api.Expr{Kind: api.ExLam, Params: []string{name}, Args: []api.Expr{body}}
		e := api.Expr{Kind: api.ExPrim, Name: "bind", Args: []api.Expr{read("(#ret 5)"), lam}}
		p := api.Prog{Cons: cons(), Binds: []api.Bind{{Name: "main", E: e}}}
		if got := told(ran(t, p, "", false, 100)); got != "exit 5 in 8" {
			t.Errorf("%.20s: %s", name, got)
		}
		let := api.Expr{Kind: api.ExLet, Binds: []api.Bind{{Name: name, E: read("6")}}, Args: []api.Expr{body}}
		p.Binds[0].E = let
		if got := told(ran(t, p, "", false, 100)); got != "exit 6 in 4" {
			t.Errorf("%.20s: %s", name, got)
		}
		p.Binds[0].E = api.Expr{Kind: api.ExCase, Args: []api.Expr{read("(Pair 7 8)")}, Alts: []api.Alt{{Kind: api.AltCon, Name: "Pair", Vars: []string{"x", name}, E: body}}}
		if got := told(ran(t, p, "", false, 100)); got != "exit 8 in 5" {
			t.Errorf("%.20s: %s", name, got)
		}
	}
}
