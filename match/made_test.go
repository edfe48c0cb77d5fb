package match_test

import (
	"math/rand"
	"slices"
	"strconv"
	"testing"

	"thunkmill/api"
	"thunkmill/core"
	"thunkmill/match"
	"thunkmill/syntax"
	"thunkmill/testkit"
)

// maker makes patterns by chance, without a fault where it is not asked for one.
type maker struct {
	*rand.Rand
	names int
}

// newName is a name that was not there yet.
func (m *maker) newName() string {
	m.names++
	return "n" + strconv.Itoa(m.names)
}

func (m *maker) pattern(deep int) api.Node {
	kind := api.NdPVar + m.Intn(10)
	if m.Intn(3) == 0 {
		kind = []int{api.NdPTuple, api.NdPLazy, api.NdPList}[m.Intn(3)]
	}
	if deep <= 1 {
		kind = []int{api.NdPVar, api.NdPVar, api.NdPVar, api.NdPVar, api.NdPAny, api.NdPInt, api.NdPChar, api.NdPString, api.NdPList, api.NdPCon}[m.Intn(10)]
	}
	n := api.Node{Kind: kind, At: m.Intn(50)}
	switch kind {
	case api.NdPVar:
		n.Name = m.newName()
	case api.NdPAs:
		n.Name, n.Kids = m.newName(), m.patterns(1, deep)
	case api.NdPLazy:
		n.Kids = m.patterns(1, deep)
	case api.NdPInt:
		n.Num = int64(m.Intn(3))
	case api.NdPChar:
		n.Num = int64(97 + m.Intn(2))
	case api.NdPString:
		n.Name = []string{"", "a", "ba", "\xff"}[m.Intn(4)]
	case api.NdPTuple:
		n.Kids = m.patterns(2+m.Intn(3), deep)
	case api.NdPList:
		n.Kids = m.patterns(min(m.Intn(4), max(deep-1, 0)), deep)
	case api.NdPCon:
		m.constructor(&n, deep)
	}
	return n
}

func (m *maker) constructor(n *api.Node, deep int) {
	of := []api.Con{{Name: "A"}, {Name: "True"}, {Name: "Nil"}, {Name: "Unit"}}
	if deep > 1 {
		of = append(of, api.Con{Name: "B", Arity: 1}, api.Con{Name: "C", Arity: 3}, api.Con{Name: "Cons", Arity: 2}, api.Con{Name: ":", Arity: 2}, api.Con{Name: ":+", Arity: 2}, api.Con{Name: "Tup3", Arity: 3})
	}
	c := of[m.Intn(len(of))]
	n.Name, n.Kids = c.Name, m.patterns(c.Arity, deep)
}

func (m *maker) patterns(n, deep int) []api.Node {
	var l []api.Node
	for range n {
		l = append(l, m.pattern(deep-1))
	}
	return l
}

// comes is an expression in which some of these names stand, free or hidden.
func (m *maker) comes(names []string) api.Expr {
	l := []string{"x", "%no", "w"}
	for range 1 + m.Intn(5) {
		l = append(l, append(slices.Clone(names), "y", "z")[m.Intn(len(names)+2)])
	}
	slices.Sort(l)
	exprs := testkit.Exprs{Chance: m, Names: slices.Compact(l), Cons: cons(), Prims: []testkit.Prim{{Name: "add", Arity: 2}, {Name: "eof"}, {Name: "error", Arity: 1}}}
	e := exprs.Expr(1 + m.Intn(4))
	args := []api.Expr{e, number(1)}
	for _, name := range names {
		if m.Intn(2) == 0 && len(args) < 20 {
			args = append(args, variable(name))
		}
	}
	if m.Intn(2) == 0 {
		return e
	}
	return api.Expr{Kind: api.ExApp, Args: args}
}

// program is one in which an expression may stand.
func program() api.Prog {
	return api.Prog{Cons: slices.SortedStableFunc(slices.Values(cons()), func(a, b api.Con) int {
		switch {
		case a.Type < b.Type || a.Type == b.Type && a.Tag < b.Tag:
			return -1
		}
		return 1
	}), Binds: []api.Bind{{Name: "main", E: number(1)}}}
}

// checkMayBe asks whether a program with a binding of an expression passes core.Check, the names that may be free in it being bound around it.
func checkMayBe(t *testing.T, e api.Expr, free []string) {
	t.Helper()
	for _, name := range core.Free(e) {
		if !slices.Contains(free, name) {
			t.Fatalf("%s is free in %s", name, core.Text(e))
		}
	}
	p := program()
	p.Binds = append(p.Binds, api.Bind{Name: "zoe", E: e})
	for _, name := range core.Free(e) {
		p.Binds[1].E = api.Expr{Kind: api.ExLam, Params: []string{name}, Args: []api.Expr{p.Binds[1].E}}
	}
	if err := core.Check(p); err != api.OK {
		t.Fatalf("core says %v of %s", err, core.Text(e))
	}
}

// counted counts what tests have seen, so that none says something of nothing.
type counted map[string]int

func (c counted) least(t *testing.T, want map[string]int) {
	t.Helper()
	for what, n := range want {
		if c[what] < n {
			t.Errorf("%d times %s, want %d at least", c[what], what, n)
		}
	}
}

// P12.1: patterns made by chance are the reference's, and may be.
func TestMadePatterns(t *testing.T) {
	m := &maker{Rand: seeded(12)}
	seen := counted{}
	for range 12000 {
		p := m.pattern(1 + m.Intn(6))
		ok, no := m.comes(namesOf(p)), variable("no")
		if m.Intn(3) == 0 {
			no = failure()
		}
		got, e := match.Pattern(cons(), p, "w", ok, no)
		r := &reference{}
		checkSame(t, "made", got, e, r.pattern(p, "w", ok, no))
		checkMayBe(t, got, append(core.Free(ok), "w", "no"))
		for _, n := range nodesOf(p) {
			seen[strconv.Itoa(n.Kind)]++
			if n.Kind == api.NdPLazy {
				free := slices.DeleteFunc(namesOf(n), func(x string) bool { return !slices.Contains(core.Free(ok), x) })
				seen["lazy "+strconv.Itoa(min(len(free), 2))]++
			}
		}
		if t.Failed() {
			text, _ := syntax.Text(p)
			t.Fatalf("in %s", text)
		}
	}
	seen.least(t, map[string]int{"lazy 0": 1000, "lazy 1": 500, "lazy 2": 100})
	for kind := api.NdPVar; kind < api.NdPOps; kind++ {
		seen.least(t, map[string]int{strconv.Itoa(kind): 1000})
	}
}

// rows are some of so many patterns each; names of one row stand in others too.
func (m *maker) rows(n, width int) []api.Row {
	var l []api.Row
	for range n {
		m.names = 0
		r := api.Row{Pats: m.patterns(width, 2+m.Intn(3))}
		r.E = m.comes(namesOf(r.Pats...))
		l = append(l, r)
	}
	return l
}

// P12.2: rows and functions made by chance are the reference's, and may be.
func TestMadeRows(t *testing.T) {
	m := &maker{Rand: seeded(13)}
	seen := counted{}
	for range 4000 {
		width := m.Intn(4)
		l := m.rows(m.Intn(5), width)
		vars := []string{"w", "v", "u"}[:width]
		got, e := match.Rows(cons(), vars, l)
		r := &reference{}
		checkSame(t, "made", got, e, r.rows(vars, l))
		var free []string
		for i := range l {
			free = append(free, core.Free(l[i].E)...)
			if slices.Contains(core.Free(l[i].E), "%no") {
				seen["%no"]++
			}
		}
		free = slices.DeleteFunc(free, func(name string) bool { return name == "%no" })
		checkMayBe(t, got, append(free, vars...))
		if len(l) > 0 && width > 0 {
			got, e := match.Function(cons(), l)
			checkSame(t, "made", got, e, r.function(l))
			checkMayBe(t, got, free)
			seen["functions"]++
		}
		seen[strconv.Itoa(len(l))+" rows"]++
		seen[strconv.Itoa(width)+" patterns"]++
		if t.Failed() {
			t.Fatalf("in %v", l)
		}
	}
	seen.least(t, map[string]int{"%no": 1000, "functions": 1000, "0 rows": 100, "1 rows": 100, "4 rows": 100, "0 patterns": 100, "1 patterns": 100, "3 patterns": 100})
}

// spoil puts a fault into a pattern, or several, or none.
func (m *maker) spoil(p api.Node) api.Node {
	p = testkit.Copied(p)
	var all []*api.Node
	testkit.Each(&p, func(n *api.Node) { all = append(all, n) })
	for range m.Intn(3) {
		n := all[m.Intn(len(all))]
		switch m.Intn(9) {
		case 0:
			n.Num = -1
		case 1:
			n.Kind, n.Name, n.Num = api.NdPOps, "", 0
			n.Kids = []api.Node{anything(), named(api.NdOp, ":"), anything()}
		case 2, 3, 4:
			*n = named(api.NdPVar, []string{"n1", "n2", "w", "no", "v"}[m.Intn(5)])
		case 5:
			*n = named(api.NdPCon, []string{"Zoe", "Tup5"}[m.Intn(2)])
		case 6:
			*n = named(api.NdPCon, []string{"B", "C", "Cons", "Tup2"}[m.Intn(4)])
		case 7:
			*n = node(api.NdPTuple, many(2+m.Intn(2), anything())...)
		case 8:
			if m.Intn(6) == 0 {
				*n = lazily(api.MaxDeep, anything())
			}
		}
	}
	return p
}

// toldComes is an expression that may be wrong, or too deep, or both.
func (m *maker) toldComes() told {
	x := told{e: variable("ok"), asTold: true}
	if m.Intn(8) == 0 {
		x = told{e: api.Expr{Kind: api.ExChar, Num: 300}}
	}
	if m.Intn(8) == 0 {
		x.e, x.great = chain(api.MaxNest+1, x.e), true
	}
	return x
}

// someCons are the constructors, some of them left out, or of another arity.
func (m *maker) someCons() []api.Con {
	l := cons()
	if m.Intn(4) == 0 {
		i := m.Intn(len(l))
		l = slices.Delete(l, i, i+1)
	}
	if m.Intn(4) == 0 {
		l[m.Intn(len(l))].Arity++
	}
	if m.Intn(4) == 0 {
		l = append(l, api.Con{Name: "A", Arity: 2}, api.Con{Name: "Zoe", Arity: m.Intn(2)})
	}
	return l
}

// P12.1: of inputs with faults, made by chance, the first that applies.
func TestMadeRefusals(t *testing.T) {
	m := &maker{Rand: seeded(14)}
	seen := counted{}
	for range 8000 {
		m.names = 0
		p := m.spoil(m.pattern(1 + m.Intn(4)))
		v := []string{"w", "w", "w", "w", "w", "w", "n1", "n3", "", "a b"}[m.Intn(10)]
		no := []api.Expr{variable("no"), variable("no"), variable("no"), failure(), failure(), variable("n2"), variable("v"), number(1), variable("")}[m.Intn(9)]
		l, ok := m.someCons(), m.toldComes()
		free, fine := "", no.Kind == api.ExPrim
		if no.Kind == api.ExVar {
			free, fine = no.Name, no.Name != ""
		}
		want := refusal(l, p, v, ok, free, fine)
		got, e := match.Pattern(l, p, v, ok.e, no)
		checkError(t, "made", got, e, want)
		seen[strconv.Itoa(int(want))]++
		if t.Failed() {
			t.Fatalf("in %v", p)
		}
	}
	seen.least(t, map[string]int{"0": 500, "2": 500, "3": 300, "8": 300, "9": 100})
}

// P12.2: of rows with faults likewise.
func TestMadeRowRefusals(t *testing.T) {
	m := &maker{Rand: seeded(15)}
	seen := counted{}
	for range 2500 {
		width := 1 + m.Intn(3)
		l, comes := m.rows(1+m.Intn(3), width), []told{}
		for i := range l {
			for k := range l[i].Pats {
				if m.Intn(5) == 0 {
					l[i].Pats[k] = m.spoil(l[i].Pats[k])
				}
			}
			comes = append(comes, m.toldComes())
			l[i].E = comes[i].e
			if m.Intn(30) == 0 {
				l[i].Pats = append(l[i].Pats, anything())
			}
		}
		vars := [][]string{{"w", "v", "u"}, {"w", "v", "u"}, {"w", "v", "u"}, {"n3", "v", "u"}, {"w", "w", "%no"}, {"a b", "v", ""}}[m.Intn(6)][:width]
		of := m.someCons()
		want := refusalOfRows(of, vars, width, l, comes)
		got, e := match.Rows(of, vars, l)
		checkError(t, "Rows", got, e, want)
		seen[strconv.Itoa(int(want))]++
		want = refusalOfRows(of, nil, len(l[0].Pats), l, comes)
		got, e = match.Function(of, l)
		checkError(t, "Function", got, e, want)
		seen["function "+strconv.Itoa(int(want))]++
		if t.Failed() {
			t.Fatalf("in %v", l)
		}
	}
	seen.least(t, map[string]int{"0": 150, "2": 150, "3": 50, "8": 50, "9": 15, "function 0": 200, "function 2": 150, "function 3": 50, "function 8": 50, "function 9": 15})
}
