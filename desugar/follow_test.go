package desugar_test

import (
	"strconv"
	"testing"

	"thunkmill/api"
	"thunkmill/core"
	"thunkmill/desugar"
	"thunkmill/syntax"
	"thunkmill/testkit"
)

// bracketed is a tree with brackets around some of its expressions, and with other places.
func (m *maker) bracketed(n api.Node) api.Node {
	n.At = m.at()
	kids := make([]api.Node, len(n.Kids))
	for i, k := range n.Kids {
		kids[i] = m.bracketed(k)
	}
	n.Kids = kids
	if n.Kind >= api.NdVar && n.Kind <= api.NdParen && n.Kind != api.NdAlt {
		for m.Intn(3) == 0 {
			n = api.Node{Kind: api.NdParen, Kids: []api.Node{n}, At: m.at()}
		}
	}
	return n
}

// P13.4: brackets and places count nothing.
func TestBracketsAndPlaces(t *testing.T) {
	m := &maker{Rand: seeded(134), open: true, cons: cons()}
	for range 700 {
		n := m.expr(1+m.Intn(5), nil)
		want, f := desugar.Expr(n, cons())
		for _, other := range []api.Node{m.bracketed(n), syntax.Strip(n), testkit.Placed(n)} {
			got, g := desugar.Expr(other, cons())
			if f != (api.Fault{}) || g != (api.Fault{}) || !core.Same(got, want) {
				t.Fatalf("%s and %s: %s, %v, want %s, %v", textOf(n), textOf(other), core.Text(got), g, core.Text(want), f)
			}
		}
	}
}

// numbersOf are the numbers by which a program's patterns are named, in the order of their declarations in another order of these.
func numbersOf(n api.Node) map[int]int {
	numbers, which := map[int]int{}, 0
	for _, d := range n.Kids {
		if d.Kind == api.NdBind && d.Kids[0].Kind != api.NdPVar {
			which++
			numbers[d.At] = which
		}
	}
	return numbers
}

// P13.4: nor does the order of a program's declarations, but for the numbers of its patterns.
func TestOrderOfDeclarations(t *testing.T) {
	m := &maker{Rand: seeded(135), cons: programCons()}
	changed := 0
	for range 400 {
		n := m.program(1 + m.Intn(3))
		for i := range n.Kids {
			n.Kids[i].At = i
		}
		other := node(api.NdProgram, m.shuffled(n.Kids)...)
		p, f := desugar.Program(n)
		q, g := desugar.Program(other)
		old, now := numbersOf(n), numbersOf(other)
		// All names at once: ahead of that each is named as no program is.
		for at, number := range now {
			q = renamed(q, "%"+strconv.Itoa(number), "at "+strconv.Itoa(at))
		}
		for at, number := range old {
			q = renamed(q, "at "+strconv.Itoa(at), "%"+strconv.Itoa(number))
			if number != now[at] {
				changed++
			}
		}
		if f != (api.Fault{}) || g != (api.Fault{}) || !core.SameProg(p, q) {
			t.Fatalf("%s and %s: %s, %v, want %s, %v", textOf(n), textOf(other), core.ProgText(q), g, core.ProgText(p), f)
		}
	}
	if changed < 80 {
		t.Errorf("%d patterns only are named otherwise", changed)
	}
}

// renamed is a program with one of its own names named otherwise.
func renamed(p api.Prog, from, to string) api.Prog {
	var l []api.Bind
	for _, b := range p.Binds {
		if b.Name == from {
			b.Name = to
		}
		l = append(l, api.Bind{Name: b.Name, E: core.Subst(b.E, from, variable(to))})
	}
	return api.Prog{Cons: p.Cons, Binds: l}
}
