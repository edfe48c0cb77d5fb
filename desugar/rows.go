package desugar

import (
	"slices"

	"thunkmill/api"
	"thunkmill/match"
	"thunkmill/scope"
)

// around puts an expression into what stands around it, and ends the scope of the names that are bound there: what stands in it is made ahead.
type around func(e api.Expr) api.Expr

// block is where names are bound: by patterns, or by declarations.
type block struct {
	used  names // of its names those that were used since this was last emptied
	leave func()
}

// enter brings names into scope, till its block is left.
func (m *maker) enter(all []string) *block {
	b := &block{used: names{}}
	hidden := make([]*block, len(all))
	for i, name := range all {
		hidden[i], m.scope[name] = m.scope[name], b
	}
	b.leave = func() {
		for i, name := range all {
			m.scope[name] = hidden[i]
			if hidden[i] == nil {
				delete(m.scope, name)
			}
		}
	}
	return b
}

// row is patterns, and what makes what comes, no making what comes if that fails after all.
type row struct {
	pats  []api.Node
	comes func(no func() api.Expr) api.Expr
}

// rows makes rows against variables from the last one on: each is what comes if the one ahead of it does not fit.
func (m *maker) rows(vars []string, l []row) api.Expr {
	e := m.failure()
	for _, r := range slices.Backward(l) {
		in, no := m.first(r.pats, vars, e)
		e = in(r.comes(no))
	}
	return e
}

func (m *maker) function(l ...row) api.Expr {
	params := m.several(len(l[0].pats))
	return m.lam(params, m.rows(params, l))
}

// first makes the first of rows around what comes, others being made already. It tells, too, what makes what comes if that fails.
func (m *maker) first(pats []api.Node, vars []string, others api.Expr) (around, func() api.Expr) {
	no := m.fresh()
	b := m.enter(scope.Names(pats))
	fits := func(e api.Expr) api.Expr {
		b.leave()
		for i := range slices.Backward(pats) {
			e = m.against(&pats[i], vars[i], e, no, b.used)
		}
		return m.let(e, api.Bind{Name: no, E: others})
	}
	return fits, func() api.Expr { return m.variable(no) }
}

// against makes a pattern against a variable, around what comes. Layer 12 is handed what stands for that: it looks at all of it and copies it, which would take too long where patterns stand in what comes behind others.
func (m *maker) against(p *api.Node, v string, ok api.Expr, no string, used names) api.Expr {
	if !m.take(tally(p, used).inRow()) {
		return api.Expr{}
	}
	e, _ := match.Pattern(m.consIn(p), *p, v, standIn(p, used), api.Expr{Kind: api.ExVar, Name: no})
	*whereItComes(&e) = ok
	return e
}

// standIn stands for what comes: of a pattern's names those are free in it that are free in that.
func standIn(p *api.Node, used names) api.Expr {
	e := api.Expr{Kind: api.ExCon, Name: "%ok"}
	for _, name := range scope.Names([]api.Node{*p}) {
		if _, is := used[name]; is {
			e.Args = append(e.Args, api.Expr{Kind: api.ExVar, Name: name})
		}
	}
	return e
}

// whereItComes finds what stands for what comes in what a pattern made: in the body of each let, and in the first alternative of each case.
func whereItComes(e *api.Expr) *api.Expr {
	for {
		switch e.Kind {
		case api.ExLet:
			e = &e.Args[0]
		case api.ExCase:
			e = &e.Alts[0].E
		default:
			return e
		}
	}
}

// consIn are the constructors that a pattern asks for: to find one layer 12 goes over all that it is handed.
func (m *maker) consIn(p *api.Node) []api.Con {
	var l []api.Con
	for n := range nodes(p, fromLeft) {
		switch n.Kind {
		case api.NdPCon:
			l = append(l, m.cons[n.Name])
		case api.NdPTuple:
			l = append(l, m.cons[tupleOf(n)])
		}
	}
	return l
}

func (m *maker) lambda(n *api.Node) api.Expr {
	last := len(n.Kids) - 1
	return m.function(row{n.Kids[:last], func(func() api.Expr) api.Expr { return m.expr(&n.Kids[last]) }})
}

// choice makes an NdCase.
func (m *maker) choice(n *api.Node) api.Expr {
	v := m.fresh()
	of := api.Bind{Name: v, E: m.inner(n)}
	return m.let(m.rows([]string{v}, m.rowsOf(n.Kids[1:])), of)
}

// rowsOf are those of alternatives, or of a function's equations.
func (m *maker) rowsOf(l []api.Node) []row {
	rows := make([]row, len(l))
	for i := range l {
		last := len(l[i].Kids) - 1
		right := &l[i].Kids[last]
		rows[i] = row{l[i].Kids[:last], func(no func() api.Expr) api.Expr { return m.right(right, no) }}
	}
	return rows
}
