package desugar_test

import (
	"math/rand"
	"slices"

	"thunkmill/api"
)

// maker makes trees by chance, without a fault. Names are few, so that inner ones hide outer ones, and primitives.
type maker struct {
	*rand.Rand
	open bool      // whether names may be free
	cons []api.Con // of expressions and patterns
}

func pick[T any](m *maker, l ...T) T { return l[m.Intn(len(l))] }

func someNames() []string {
	return []string{"a", "b", "c", "d", "f", "x", "add", "ord", "getc", "bind"}
}

func someOperators() []string { return []string{"+", "<>", "%", "-"} }

func primitives() []string {
	return []string{"add", "ord", "getc", "bind", "seq", "eof", "error", "ret", "sub"}
}

// name is one that may stand where these are in scope.
func (m *maker) name(in []string) string {
	if m.open {
		in = slices.Concat(in, someNames(), someOperators())
	}
	return pick(m, append(slices.Clone(in), pick(m, primitives()...))...)
}

// unused is one of some names that is not taken yet, which it then is.
func (m *maker) unused(l []string, taken *[]string) string {
	l = slices.DeleteFunc(slices.Clone(l), func(name string) bool { return slices.Contains(*taken, name) })
	if len(l) == 0 {
		return ""
	}
	name := pick(m, l...)
	*taken = append(*taken, name)
	return name
}

func (m *maker) at() int { return m.Intn(1000) }

func (m *maker) pattern(deep int, taken *[]string) api.Node {
	kind := api.NdPVar + m.Intn(10)
	if m.Intn(3) == 0 {
		kind = pick(m, api.NdPTuple, api.NdPLazy, api.NdPLazy, api.NdPAs)
	}
	if deep <= 1 {
		kind = pick(m, api.NdPVar, api.NdPVar, api.NdPVar, api.NdPAny, api.NdPInt, api.NdPChar, api.NdPString, api.NdPList)
	}
	n := api.Node{Kind: kind, At: m.at()}
	switch kind {
	case api.NdPVar, api.NdPAs:
		n.Name = m.unused(someNames(), taken)
		if n.Name == "" {
			return api.Node{Kind: api.NdPAny}
		}
		if kind == api.NdPAs {
			n.Kids = m.patterns(1, deep, taken)
		}
	case api.NdPLazy:
		n.Kids = m.patterns(1, deep, taken)
	case api.NdPInt:
		n.Num = int64(m.Intn(3))
	case api.NdPChar:
		n.Num = int64(m.Intn(256))
	case api.NdPString:
		n.Name = pick(m, "", "a", "ba")
	case api.NdPTuple:
		n.Kids = m.patterns(2+m.Intn(3), deep, taken)
	case api.NdPList:
		n.Kids = m.patterns(min(m.Intn(4), max(deep-1, 0)), deep, taken)
	case api.NdPCon:
		c := pick(m, m.cons...)
		n.Name, n.Kids = c.Name, m.patterns(c.Arity, deep, taken)
		if c.Name == "Cons" && m.Intn(2) == 0 {
			n.Name = ":"
		}
	}
	return n
}

func (m *maker) patterns(n, deep int, taken *[]string) []api.Node {
	var l []api.Node
	for range n {
		l = append(l, m.pattern(deep-1, taken))
	}
	return l
}

func (m *maker) leaf(in []string) api.Node {
	n := api.Node{Kind: pick(m, api.NdVar, api.NdVar, api.NdVar, api.NdVar, api.NdInt, api.NdChar, api.NdString, api.NdCon), At: m.at()}
	switch n.Kind {
	case api.NdVar:
		n.Name = m.name(in)
	case api.NdInt:
		n.Num = int64(m.Intn(5))
	case api.NdChar:
		n.Num = int64(m.Intn(256))
	case api.NdString:
		n.Name = pick(m, "", "x", "\x00\xff")
	case api.NdCon:
		n.Name = pick(m, append(m.cons, api.Con{Name: ":"})...).Name
	}
	return n
}

func (m *maker) exprs(n, deep int, in []string) []api.Node {
	var l []api.Node
	for range n {
		l = append(l, m.expr(deep-1, in))
	}
	return l
}

func (m *maker) expr(deep int, in []string) api.Node {
	if deep <= 1 || m.Intn(8) == 0 {
		return m.leaf(in)
	}
	n := api.Node{Kind: pick(m, api.NdApp, api.NdApp, api.NdApp, api.NdNeg, api.NdLam, api.NdLam, api.NdLet, api.NdLet, api.NdIf, api.NdCase, api.NdCase, api.NdDo, api.NdTuple, api.NdList, api.NdComp, api.NdComp, api.NdLeft, api.NdRight, api.NdParen), At: m.at()}
	switch n.Kind {
	case api.NdApp:
		n.Kids = append([]api.Node{m.function(deep-1, in)}, m.exprs(1+m.Intn(4), deep, in)...)
	case api.NdNeg, api.NdParen:
		n.Kids = m.exprs(1, deep, in)
	case api.NdLeft, api.NdRight:
		n.Kids = m.exprs(1, deep, in)
		n.Name = pick(m, m.name(in), m.name(in), pick(m, append(m.cons, api.Con{Name: ":"})...).Name)
		if m.open && m.Intn(6) == 0 {
			n.Name = pick(m, unknown()...)
		}
	case api.NdIf:
		n.Kids = m.exprs(3, deep, in)
	case api.NdTuple:
		n.Kids = m.exprs(2+m.Intn(3), deep, in)
	case api.NdList:
		n.Kids = m.exprs(m.Intn(4), deep, in)
	case api.NdLam:
		var taken []string
		n.Kids = m.patterns(1+m.Intn(3), 1+m.Intn(4), &taken)
		n.Kids = append(n.Kids, m.expr(deep-1, with(in, taken)))
	case api.NdLet:
		block, in := m.block(deep-1, in)
		n.Kids = []api.Node{block, m.expr(deep-1, in)}
	case api.NdCase:
		n.Kids = m.exprs(1, deep, in)
		for range 1 + m.Intn(3) {
			n.Kids = append(n.Kids, m.rowOf(api.NdAlt, 1, deep-1, in))
		}
	case api.NdDo:
		l, in := m.inTurn(m.Intn(4), deep, in)
		n.Kids = append(l, node(api.NdStmt, m.expr(deep-1, in)))
	case api.NdComp:
		l, in := m.inTurn(1+m.Intn(4), deep, in)
		n.Kids = append([]api.Node{m.expr(deep-1, in)}, l...)
	}
	return n
}

// function is what is applied: oftener than else a constructor or a primitive.
func (m *maker) function(deep int, in []string) api.Node {
	n := m.expr(deep, in)
	switch m.Intn(3) {
	case 0:
		n = api.Node{Kind: api.NdCon, Name: pick(m, append(m.cons, api.Con{Name: ":"})...).Name, At: m.at()}
	case 1:
		n = api.Node{Kind: api.NdVar, Name: m.name(in), At: m.at()}
	}
	for m.Intn(4) == 0 {
		n = node(api.NdParen, n)
	}
	return n
}

// inTurn are statements, and the names in scope behind them.
func (m *maker) inTurn(n, deep int, in []string) ([]api.Node, []string) {
	var l []api.Node
	for range n {
		s := api.Node{Kind: pick(m, api.NdStmt, api.NdGen, api.NdLets), At: m.at()}
		switch s.Kind {
		case api.NdStmt:
			s.Kids = m.exprs(1, deep, in)
		case api.NdGen:
			var taken []string
			s.Kids = append(m.patterns(1, 1+m.Intn(4), &taken), m.expr(deep-1, in))
			in = with(in, taken)
		case api.NdLets:
			var block api.Node
			block, in = m.block(deep-1, in)
			s.Kids = []api.Node{block}
		}
		l = append(l, s)
	}
	return l, in
}

// rowOf is an alternative or an equation.
func (m *maker) rowOf(kind, width, deep int, in []string) api.Node {
	var taken []string
	pats := m.patterns(width, 1+m.Intn(4), &taken)
	return api.Node{Kind: kind, Kids: append(pats, m.right(deep, with(in, taken))), At: m.at()}
}

func (m *maker) right(deep int, in []string) api.Node {
	n := api.Node{Kind: api.NdRhs, At: m.at()}
	block := api.Node{Kind: api.NdWhere}
	there := m.Intn(4) == 0
	if there {
		block, in = m.block(deep-1, in)
	}
	n.Kids = []api.Node{m.expr(deep-1, in)}
	if m.Intn(2) == 0 {
		n.Kids = nil
		for range 1 + m.Intn(2) {
			n.Kids = append(n.Kids, node(api.NdGuard, m.exprs(2, deep, in)...))
		}
	}
	if there {
		n.Kids = append(n.Kids, block)
	}
	return n
}

// block is an NdWhere, and the names in scope where it is.
func (m *maker) block(deep int, in []string) (api.Node, []string) {
	decls, defined := m.declarations(m.Intn(5), nil)
	in = with(in, defined)
	m.fill(decls, deep, in)
	return api.Node{Kind: api.NdWhere, Kids: decls, At: m.at()}, in
}

// declarations are some without right sides, and what they define: what stands in them may use all of that.
func (m *maker) declarations(n int, taken []string) ([]api.Node, []string) {
	var decls []api.Node
	for range n {
		switch m.Intn(3) {
		case 0:
			name := m.unused(slices.Concat(someNames(), someOperators()), &taken)
			if name == "" {
				continue
			}
			width := 1 + m.Intn(3)
			for range 1 + m.Intn(3) {
				decls = append(decls, api.Node{Kind: api.NdEqn, Name: name, Num: int64(width), At: m.at()})
			}
		case 1:
			if name := m.unused(someNames(), &taken); name != "" {
				decls = append(decls, node(api.NdBind, named(api.NdPVar, name)))
			}
		case 2:
			decls = append(decls, api.Node{Kind: api.NdBind, Kids: m.patterns(1, 2+m.Intn(3), &taken), At: m.at()})
		}
	}
	return decls, taken
}

// fill puts patterns and right sides into declarations.
func (m *maker) fill(decls []api.Node, deep int, in []string) {
	for i := range decls {
		switch d := &decls[i]; d.Kind {
		case api.NdEqn:
			d.Kids, d.Num = m.rowOf(api.NdEqn, int(d.Num), deep, in).Kids, 0
		case api.NdBind:
			d.Kids = append(d.Kids, m.right(deep, in))
		}
	}
}

// program is one with main, and with constructors of its own.
func (m *maker) program(deep int) api.Node {
	decls, defined := m.declarations(m.Intn(7), []string{"main"})
	m.fill(decls, deep, defined)
	main := node(api.NdBind, named(api.NdPVar, "main"), m.right(deep, defined))
	if m.Intn(3) == 0 {
		main = m.rowOf(api.NdEqn, 1, deep, defined)
		main.Name = "main"
	}
	decls = append(decls, main)
	own := []api.Node{{Kind: api.NdConDef, Name: "A"}, {Kind: api.NdConDef, Name: "B", Num: 1}, {Kind: api.NdConDef, Name: "C", Num: 3}}
	decls = append(decls, named(api.NdData, "Own", own...), api.Node{Kind: api.NdFixity, Name: "infixl", Num: 3, Kids: []api.Node{named(api.NdOp, "+")}})
	return node(api.NdProgram, m.shuffled(decls)...)
}

// shuffled are declarations in another order, equations of one function together.
func (m *maker) shuffled(decls []api.Node) []api.Node {
	var l [][]api.Node
	for i, d := range decls {
		if i > 0 && d.Kind == api.NdEqn && decls[i-1].Kind == api.NdEqn && decls[i-1].Name == d.Name {
			l[len(l)-1] = append(l[len(l)-1], d)
			continue
		}
		l = append(l, []api.Node{d})
	}
	m.Shuffle(len(l), func(i, k int) { l[i], l[k] = l[k], l[i] })
	return slices.Concat(l...)
}
