package fixity_test

import (
	"math/rand"
	"reflect"
	"slices"
	"strconv"
	"testing"

	"thunkmill/api"
	"thunkmill/fixity"
	"thunkmill/syntax"
	"thunkmill/testkit"
)

// grammar brings a row in order by another road than the program: by the older report's grammar, which has an exp, a lexp and an rexp for each level, and of which it seeks all derivations of a span. A level's number of 10 is an operand.
type grammar struct {
	table   []api.Fixity
	row     []part
	pattern bool
	known   map[span][]api.Node
}

// part is an operand, an operator, or the - of a negation.
type part struct {
	node        api.Node
	op, minus   bool
	side, level int
}

type span struct {
	form            byte // e, l or r
	level, from, to int
}

func (g *grammar) exp(form byte, level, from, to int) []api.Node {
	s := span{form, level, from, to}
	l, ok := g.known[s]
	if !ok {
		l = g.derive(s)
		g.known[s] = l
	}
	return l
}

func (g *grammar) derive(s span) []api.Node {
	up := s.level + 1
	switch {
	case s.level == 10:
		if p := g.row[s.from]; s.to-s.from == 1 && !p.op && !p.minus {
			return []api.Node{p.node}
		}
		return nil
	case s.form == 'e':
		all := slices.Concat(g.exp('e', up, s.from, s.to), g.exp('l', s.level, s.from, s.to), g.exp('r', s.level, s.from, s.to))
		return append(all, g.around(s, api.SideNone, "e", "e")...)
	case s.form == 'r':
		return g.around(s, api.SideRight, "e", "re")
	}
	all := g.around(s, api.SideLeft, "le", "e")
	if first := g.row[s.from]; s.level == 6 && first.minus && s.to-s.from > 1 {
		for _, e := range g.exp('e', 7, s.from+1, s.to) {
			all = append(all, api.Node{Kind: api.NdNeg, Kids: []api.Node{e}, At: first.node.At})
		}
	}
	return all
}

// around are the applications of all operators of a level and side in a span, whose operands are of some forms: of l and r of the same level, of e of the next.
func (g *grammar) around(s span, side int, left, right string) []api.Node {
	var all []api.Node
	for at := s.from + 1; at < s.to-1; at++ {
		op := g.row[at]
		if !op.op || op.side != side || op.level != s.level {
			continue
		}
		for _, a := range g.any(left, s.level, s.from, at) {
			for _, b := range g.any(right, s.level, at+1, s.to) {
				all = append(all, g.application(op.node, a, b))
			}
		}
	}
	return all
}

func (g *grammar) any(forms string, level, from, to int) []api.Node {
	var all []api.Node
	for _, f := range []byte(forms) {
		if f == 'e' {
			all = append(all, g.exp(f, level+1, from, to)...)
		} else {
			all = append(all, g.exp(f, level, from, to)...)
		}
	}
	return all
}

func (g *grammar) application(op, a, b api.Node) api.Node {
	if g.pattern {
		return api.Node{Kind: api.NdPCon, Name: op.Name, Kids: []api.Node{a, b}, At: a.At}
	}
	op.Kind = api.NdVar
	if isConstructors(op.Name) {
		op.Kind = api.NdCon
	}
	return api.Node{Kind: api.NdApp, Kids: []api.Node{op, a, b}, At: a.At}
}

// isConstructors asks syntax whether there may be a constructor of a name.
func isConstructors(name string) bool {
	return syntax.Check(api.Node{Kind: api.NdCon, Name: name}) == api.OK
}

func (g *grammar) all(row []part) []api.Node {
	g.row, g.known = row, map[span][]api.Node{}
	return g.exp('e', 0, 0, len(row))
}

// order answers what a row comes to; or the place of the first part with which, an operand behind it, there is nothing that it could come to.
func (g *grammar) order(row []part) (api.Node, *api.Fault) {
	for i, p := range row {
		if !p.op && !p.minus {
			continue
		}
		begun := append(slices.Clone(row[:i+1]), part{})
		if g.pattern && p.op && !isConstructors(p.node.Name) || len(g.all(begun)) == 0 {
			return api.Node{}, &api.Fault{Err: api.ErrFixity, At: p.node.At}
		}
	}
	l := g.all(row)
	if len(l) != 1 {
		panic("the grammar has " + strconv.Itoa(len(l)) + " ways to read a row that could be begun")
	}
	return l[0], nil
}

// resolve answers a node in order, its kids ahead of itself.
func (g *grammar) resolve(n api.Node) (api.Node, *api.Fault) {
	kids := make([]api.Node, len(n.Kids))
	for i, k := range n.Kids {
		var f *api.Fault
		if kids[i], f = g.resolve(k); f != nil {
			return api.Node{}, f
		}
	}
	if n.Kind != api.NdOps && n.Kind != api.NdPOps {
		n.Kids = kids
		return n, nil
	}
	var row []part
	for i, k := range n.Kids {
		ordered := kids[i]
		for ; k.Kind == api.NdNeg; k, ordered = k.Kids[0], ordered.Kids[0] {
			row = append(row, part{node: k, minus: true})
		}
		p := part{node: ordered, op: k.Kind == api.NdOp}
		if p.op {
			p.side, p.level = g.holding(k.Name)
		}
		row = append(row, p)
	}
	g.pattern = n.Kind == api.NdPOps
	return g.order(row)
}

func (g *grammar) holding(name string) (side, level int) {
	for _, f := range g.table {
		if f.Name == name {
			return f.Side, f.Level
		}
	}
	return api.SideLeft, 9
}

// checkAsGrammar holds what a tree comes to to the grammar, places counted, and answers it.
func checkAsGrammar(t *testing.T, n api.Node, l []api.Fixity) (api.Node, bool) {
	t.Helper()
	g := grammar{table: l}
	want, wrong := g.resolve(n)
	got, f := fixity.Resolve(n, l)
	if wrong != nil {
		if f != *wrong || !reflect.DeepEqual(got, api.Node{}) {
			t.Fatalf("%s, by %v: %s, %v, want %v", told(n), l, told(got), f, *wrong)
		}
		return api.Node{}, false
	}
	if f != (api.Fault{}) || !syntax.Same(got, want) || placesTold(got) != placesTold(want) {
		t.Fatalf("%s, by %v: %s at %s, %v, want %s at %s", told(n), l, told(got), placesTold(got), f, told(want), placesTold(want))
	}
	return got, true
}

// rowOf is an NdOps with these operators, and as many negations ahead of each operand as a number's digits to the base 3 say.
func rowOf(names []string, negations int) api.Node {
	n := api.Node{Kind: api.NdOps}
	at := 0
	for i := range len(names) + 1 {
		if i > 0 {
			at++
			n.Kids = append(n.Kids, api.Node{Kind: api.NdOp, Name: names[i-1], At: at})
		}
		at += negations%3 + 1
		e := api.Node{Kind: api.NdVar, Name: "x" + strconv.Itoa(i), At: at}
		for k := range negations % 3 {
			e = api.Node{Kind: api.NdNeg, Kids: []api.Node{e}, At: at - 1 - k}
		}
		n.Kids = append(n.Kids, e)
		negations /= 3
	}
	return n
}

// All rows of at most two operators of all sides and about all levels, with up to two negations ahead of each operand; and of three of the levels about negation.
func TestAllShortRows(t *testing.T) {
	var l []api.Fixity
	var names, near []string
	for _, level := range []int{0, 1, 5, 6, 7, 9} {
		for side := 1; side <= 3; side++ {
			name := "f" + strconv.Itoa(level) + strconv.Itoa(side)
			l = append(l, api.Fixity{Name: name, Side: side, Level: level})
			names = append(names, name)
			if level >= 5 && level <= 7 {
				near = append(near, name)
			}
		}
	}
	good, bad := 0, 0
	try := func(names []string, negations int) {
		if _, ok := checkAsGrammar(t, rowOf(names, negations), l); ok {
			good++
		} else {
			bad++
		}
	}
	for _, a := range names {
		for k := range 9 {
			try([]string{a}, k)
		}
		for _, b := range names {
			for k := range 27 {
				try([]string{a, b}, k)
			}
		}
	}
	for _, a := range near {
		for _, b := range near {
			for _, c := range near {
				for _, k := range []int{0, 1, 3, 9, 27, 1 + 9, 3 + 27} {
					try([]string{a, b, c}, k)
				}
			}
		}
	}
	if good < 2000 || bad < 2000 {
		t.Errorf("%d rows that can be, %d that can't", good, bad)
	}
}

// tableOf makes a table by chance, of few names, some of them twice.
func tableOf(r *rand.Rand, names []string) []api.Fixity {
	var l []api.Fixity
	levels := []int{0, 4, 5, 6, 7, 9}
	for range r.Intn(2 * len(names)) {
		l = append(l, api.Fixity{Name: names[r.Intn(len(names))], Side: 1 + r.Intn(3), Level: levels[r.Intn(len(levels))]})
	}
	return l
}

// Long rows, with rows within them.
func TestLongerRows(t *testing.T) {
	r := rand.New(rand.NewSource(51))
	names := []string{"+", "-", "f", "C", ":", "::", "*"}
	var make func(deep int) api.Node
	make = func(deep int) api.Node {
		var l []string
		for range 1 + r.Intn(6) {
			l = append(l, names[r.Intn(len(names))])
		}
		n := rowOf(l, 0)
		for i := 0; i < len(n.Kids); i += 2 {
			switch {
			case deep > 0 && r.Intn(4) == 0:
				n.Kids[i] = make(deep - 1)
			case r.Intn(5) == 0:
				n.Kids[i] = api.Node{Kind: api.NdParen, Kids: []api.Node{n.Kids[i]}}
			}
			for r.Intn(6) == 0 {
				n.Kids[i] = api.Node{Kind: api.NdNeg, Kids: []api.Node{n.Kids[i]}}
			}
		}
		return n
	}
	good := 0
	for range 6000 {
		n := testkit.Placed(make(2))
		l := tableOf(r, names)
		if r.Intn(2) == 0 { // one side alone, so that more can be
			for i := range l {
				l[i].Side = api.SideLeft
			}
		}
		if _, ok := checkAsGrammar(t, n, l); ok {
			good++
		}
	}
	if good < 1000 {
		t.Errorf("only %d rows can be", good)
	}
}

// madeTree makes a tree with operators by chance, in whose patterns they are, most often, constructors'.
func madeTree(r *rand.Rand) api.Node {
	trees := testkit.Trees{Chance: r}
	n := testkit.Placed(trees.Tree(1+r.Intn(44), 1+r.Intn(5)))
	testkit.Each(&n, func(n *api.Node) {
		if n.Kind != api.NdPOps || r.Intn(20) == 0 {
			return
		}
		for i := 1; i < len(n.Kids); i += 2 {
			n.Kids[i].Name = trees.Pick(":", ":+", "::", "C")
		}
	})
	return n
}

func TestMadeTrees(t *testing.T) {
	r := rand.New(rand.NewSource(52))
	names := []string{"x", "f", "_y'", "aB1", "C", "Tup2", "X'", "+", "-", ".", "-->", "~~", ":", ":+", "::"}
	good, bad := map[int]int{}, 0
	for range 30000 {
		n, l := madeTree(r), tableOf(r, names)
		got, ok := checkAsGrammar(t, n, l)
		if !ok {
			bad++
			continue
		}
		if hasRows(n) {
			good[n.Kind]++
		}
		checkWhatFollows(t, n, got, l)
	}
	for _, k := range append(testkit.Span(api.NdApp, api.NdStmt), api.NdProgram, api.NdEqn, api.NdPOps, api.NdPCon) {
		if good[k] < 10 {
			t.Errorf("only %d trees of kind %d have operators", good[k], k)
		}
	}
	if bad < 300 {
		t.Errorf("only %d trees can't be", bad)
	}
}

func hasRows(n api.Node) bool {
	has := false
	testkit.Each(&n, func(n *api.Node) { has = has || n.Kind == api.NdOps || n.Kind == api.NdPOps })
	return has
}

// checkWhatFollows holds a tree in which each node has a place of its own, and what it came to, to P5.3.
func checkWhatFollows(t *testing.T, n, got api.Node, l []api.Fixity) {
	t.Helper()
	if hasRows(got) {
		t.Fatalf("%s: operators are left in %s", told(n), told(got))
	}
	if a, b := read(n), read(got); !slices.Equal(a, b) {
		t.Fatalf("%s: names and numbers %q, of what came %q", told(n), a, b)
	}
	again, f := fixity.Resolve(got, l)
	if f != (api.Fault{}) || !syntax.Same(again, got) || placesTold(again) != placesTold(got) {
		t.Fatalf("%s: %s, resolved again %s, %v", told(n), told(got), told(again), f)
	}
	other, f := fixity.Resolve(parenthesised(n), l)
	if f != (api.Fault{}) || !syntax.Same(syntax.Strip(other), syntax.Strip(got)) {
		t.Fatalf("%s: %s, with parentheses %s, %v", told(n), told(got), told(other), f)
	}
}

// read tells names and numbers from left to right. What came of an operator has the place of its left operand, which no other node of these trees has.
func read(n api.Node) []string {
	all := func(l ...api.Node) []string {
		var s []string
		for _, k := range l {
			s = append(s, read(k)...)
		}
		return s
	}
	k := n.Kids
	switch {
	case n.Kind == api.NdApp && len(k) == 3 && n.At == k[1].At:
		return all(k[1], k[0], k[2])
	case n.Kind == api.NdPCon && len(k) == 2 && n.At == k[0].At:
		return slices.Concat(read(k[0]), []string{n.Name + " 0"}, read(k[1]))
	case n.Name != "" || n.Num != 0:
		return append([]string{n.Name + " " + strconv.FormatInt(n.Num, 10)}, all(k...)...)
	}
	return all(k...)
}

// parenthesised is a tree with parentheses around each operand of an NdOps; negations aren't part of these.
func parenthesised(n api.Node) api.Node {
	var around func(n api.Node) api.Node
	around = func(n api.Node) api.Node {
		if n.Kind == api.NdNeg {
			n.Kids = []api.Node{around(n.Kids[0])}
			return n
		}
		return api.Node{Kind: api.NdParen, Kids: []api.Node{n}}
	}
	n.Kids = slices.Clone(n.Kids)
	for i := range n.Kids {
		n.Kids[i] = parenthesised(n.Kids[i])
		if n.Kind == api.NdOps && i%2 == 0 {
			n.Kids[i] = around(n.Kids[i])
		}
	}
	return n
}

// Where all operators are of one level and left, what comes leans to the left.
func TestLeansToTheLeft(t *testing.T) {
	for level := range 10 {
		var l []api.Fixity
		var names []string
		for _, s := range []string{"+", "f", "C", ":", "-"} {
			l = append(l, api.Fixity{Name: s, Side: api.SideLeft, Level: level})
			names = append(names, s)
		}
		for many := 1; many <= 12; many++ {
			n := row(many, true, func(i int) string { return names[(i*i+many)%5] })
			got, f := fixity.Resolve(n, l)
			if f != (api.Fault{}) {
				t.Fatal(f)
			}
			for i := many - 1; i >= 0; i-- {
				k := got.Kids
				if got.Kind != api.NdApp || len(k) != 3 || k[0].Name != names[(i*i+many)%5] || k[0].At != i || k[2].Kind != api.NdVar {
					t.Fatalf("%d operators of level %d: %s", many, level, told(got))
				}
				got = k[1]
			}
			if got.Kind != api.NdVar {
				t.Errorf("%d operators: %s is first", many, told(got))
			}
		}
	}
}

// A program's table, reckoned declaration by declaration, and what All makes of it.
func TestMadePrograms(t *testing.T) {
	r := rand.New(rand.NewSource(53))
	trees := testkit.Trees{Chance: r}
	faults := map[api.Errno]int{}
	for range 20000 {
		n := testkit.Placed(trees.Tree(api.NdProgram, 2+r.Intn(7)))
		testkit.Each(&n, func(k *api.Node) {
			if k.Kind == api.NdPOps {
				for i := 1; i < len(k.Kids); i += 2 {
					k.Kids[i].Name = ":"
				}
			}
		})
		want, wrong := tableByHand(n)
		got, f := fixity.Table(n)
		if f != wrong || !slices.Equal(got, want) {
			t.Fatalf("%s: Table = %v, %v, want %v, %v", told(n), got, f, want, wrong)
		}
		ordered, f := fixity.All(n)
		faults[f.Err]++
		if wrong.Err != api.OK {
			checkFault(t, told(n), ordered, f, wrong)
			continue
		}
		other, f2 := fixity.Resolve(n, want)
		if f != f2 || !syntax.Same(ordered, other) || placesTold(ordered) != placesTold(other) {
			t.Fatalf("%s: All = %s, %v, Resolve = %s, %v", told(n), told(ordered), f, told(other), f2)
		}
	}
	if faults[api.OK] < 1000 || faults[api.ErrScope] < 100 || faults[api.ErrFixity] < 100 {
		t.Errorf("faults: %v", faults)
	}
}

func tableByHand(n api.Node) ([]api.Fixity, api.Fault) {
	sides := map[string]int{"infixl": 1, "infixr": 2, "infix": 3}
	var l []api.Fixity
	for _, d := range n.Kids {
		for _, op := range d.Kids {
			if d.Kind != api.NdFixity {
				continue
			}
			if slices.ContainsFunc(l, func(f api.Fixity) bool { return f.Name == op.Name }) {
				return nil, api.Fault{Err: api.ErrScope, At: op.At}
			}
			l = append(l, api.Fixity{Name: op.Name, Side: sides[d.Name], Level: int(d.Num)})
		}
	}
	return with(l), api.Fault{}
}
