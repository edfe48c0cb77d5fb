package model_test

import (
	"cmp"
	"fmt"
	"maps"
	"slices"
	"testing"

	"thunkmill/api"
	"thunkmill/core"
)

// namer tells a bound variable's new name, from how many names there are around it.
type namer func(around int) string

// unlike is a namer that tells no name twice.
func unlike() namer {
	last := 0
	return func(int) string {
		last++
		return fmt.Sprint("u", last)
	}
}

// byLevel is a namer that tells one name of all that have as many names around them, so that names come again side by side.
func byLevel(around int) string { return fmt.Sprint("l", around) }

// renamed is an expression with other names of its bound variables; in tells the new names of those around it.
func (n namer) renamed(e api.Expr, in map[string]string) api.Expr {
	if e.Kind == api.ExVar {
		e.Name = in[e.Name]
	}
	e.Params, in = n.bind(e.Params, in)
	var names []string
	for _, b := range e.Binds {
		names = append(names, b.Name)
	}
	names, in = n.bind(names, in)
	e.Binds = slices.Clone(e.Binds)
	for i, b := range e.Binds {
		e.Binds[i] = api.Bind{Name: names[i], E: n.renamed(b.E, in)}
	}
	e.Args = slices.Clone(e.Args)
	for i := range e.Args {
		e.Args[i] = n.renamed(e.Args[i], in)
	}
	e.Alts = slices.Clone(e.Alts)
	for i, a := range e.Alts {
		vars, within := n.bind(a.Vars, in)
		e.Alts[i].Vars, e.Alts[i].E = vars, n.renamed(a.E, within)
	}
	return e
}

// bind tells the new names of some names, and of all that are in scope with them.
func (n namer) bind(names []string, in map[string]string) ([]string, map[string]string) {
	in = maps.Clone(in)
	var l []string
	for _, name := range names {
		delete(in, name)
	}
	// Those that are hidden are counted too, so that no new name hides one that is still asked for.
	around := len(in) + 8*len(names)
	for _, name := range names {
		around++
		for slices.Contains(slices.Collect(maps.Values(in)), n(around)) {
			around++
		}
		in[name] = n(around)
		l = append(l, in[name])
	}
	return l, in
}

// other is a program with other names, but for main's.
func (n namer) other(p api.Prog) api.Prog {
	in := map[string]string{}
	for _, b := range p.Binds {
		in[b.Name] = "p" + b.Name[len(b.Name)-1:] + fmt.Sprint(len(p.Binds)-len(in))
	}
	in["main"] = "main"
	var l []api.Bind
	for _, b := range p.Binds {
		l = append(l, api.Bind{Name: in[b.Name], E: n.renamed(b.E, in)})
	}
	slices.SortFunc(l, func(a, b api.Bind) int { return cmp.Compare(a.Name, b.Name) })
	return api.Prog{Cons: p.Cons, Binds: l}
}

// keeping is a program with other names of what is bound within its bindings alone.
func (n namer) keeping(p api.Prog) api.Prog {
	in := map[string]string{}
	for _, b := range p.Binds {
		in[b.Name] = b.Name
	}
	var l []api.Bind
	for _, b := range p.Binds {
		l = append(l, api.Bind{Name: b.Name, E: n.renamed(b.E, in)})
	}
	return api.Prog{Cons: p.Cons, Binds: l}
}

// P15.6: with other names of bound variables the outcome is the same, and takes as many steps.
func TestOtherNames(t *testing.T) {
	m := seeded(6)
	for i := range 4000 {
		p := m.program()
		if i%4 == 0 {
			p, _ = m.byTable()
		}
		input, ended, fuel := m.pick("", "a", "abc"), m.Intn(2) == 0, m.pick2(1500, 1500, 40, 9)
		want := ran(t, p, input, ended, fuel)
		kept := []api.Prog{unlike().keeping(p), namer(byLevel).keeping(p)}
		for _, q := range append(kept, unlike().other(p), namer(byLevel).other(p)) {
			if got := ran(t, q, input, ended, fuel); !same(got, want) {
				t.Fatalf("%s on %q, fuel %d: %s, of %s: %s", core.ProgText(p), input, fuel, told(want), core.ProgText(q), told(got))
			}
		}
		for _, q := range kept {
			if !core.SameProg(p, q) {
				t.Fatalf("the test's own names are wrong: %s, %s", core.ProgText(p), core.ProgText(q))
			}
		}
	}
}

func (m *maker) pick2(l ...int) int { return l[m.Intn(len(l))] }

// P15.6: names that are those of constructors, of primitives, long, or hide one another.
func TestOddNames(t *testing.T) {
	long := string(slices.Repeat([]byte{'n'}, api.MaxSource))
	for _, name := range []string{"Cons", "Nil", "add", "#add", "_", "%no", "main", "1", "'97'", "\\", "->", "let", long} {
		x := api.Expr{Kind: api.ExVar, Name: name}
		body := api.Expr{Kind: api.ExPrim, Name: "exit", Args: []api.Expr{x}}
		lam := api.Expr{Kind: api.ExLam, Params: []string{name}, Args: []api.Expr{body}}
		e := api.Expr{Kind: api.ExPrim, Name: "bind", Args: []api.Expr{read("(#ret 5)"), lam}}
		p := api.Prog{Cons: cons(), Binds: []api.Bind{{Name: "main", E: e}}}
		if got := told(ran(t, p, "", false, 100)); got != "exit 5 in 8" {
			t.Errorf("%.20s: %s", name, got)
		}
		let := api.Expr{Kind: api.ExLet, Binds: []api.Bind{{Name: name, E: read("6")}}, Args: []api.Expr{body}}
		p.Binds[0].E = let
		if got := told(ran(t, p, "", false, 100)); got != "exit 6 in 4" {
			t.Errorf("%.20s: %s", name, got)
		}
		p.Binds[0].E = api.Expr{Kind: api.ExCase, Args: []api.Expr{read("(Pair 7 8)")}, Alts: []api.Alt{{Kind: api.AltCon, Name: "Pair", Vars: []string{"x", name}, E: body}}}
		if got := told(ran(t, p, "", false, 100)); got != "exit 8 in 5" {
			t.Errorf("%.20s: %s", name, got)
		}
	}
}
