package desugar

import (
	"slices"

	"thunkmill/api"
)

// allAround puts an expression into all that stands around it, the inner one last.
func allAround(l []around, e api.Expr) api.Expr {
	for _, in := range slices.Backward(l) {
		e = in(e)
	}
	return e
}

func (m *maker) do(n *api.Node) api.Expr {
	last := len(n.Kids) - 1
	l := make([]around, last)
	for i := range l {
		l[i] = m.statements[n.Kids[i].Kind](&n.Kids[i])
	}
	return allAround(l, m.inner(&n.Kids[last]))
}

// perform makes an action whose value nobody asks for.
func (m *maker) perform(s *api.Node) around {
	action := m.inner(s)
	return func(rest api.Expr) api.Expr {
		return m.prim("bind", action, m.lam(m.several(1), rest))
	}
}

// receive makes an action whose value a pattern takes.
func (m *maker) receive(s *api.Node) around {
	action, v := m.expr(&s.Kids[1]), m.several(1)
	in, _ := m.first(s.Kids[:1], v, m.failure())
	return func(rest api.Expr) api.Expr {
		return m.prim("bind", action, m.lam(v, in(rest)))
	}
}

func (m *maker) lets(s *api.Node) around {
	return m.declared(s.Kids[0].Kids)
}

// comprehension makes a list. Each qualifier is handed the list that comes behind what it makes, and tells the one behind what the next one makes.
func (m *maker) comprehension(n *api.Node) api.Expr {
	t := m.con("Nil")
	l := make([]around, len(n.Kids)-1)
	for i := range l {
		q := &n.Kids[1+i]
		l[i], t = m.qualifiers[q.Kind](q, t)
	}
	return allAround(l, m.con("Cons", m.inner(n), t))
}

// shared tells what a list is named where it stands twice, and its binding; none, if it is small enough to stand there itself.
func (m *maker) shared(t api.Expr) (api.Expr, []api.Bind) {
	if t.Kind == api.ExVar || t.Kind == api.ExCon {
		return t, nil
	}
	x := m.fresh()
	return m.variable(x), []api.Bind{{Name: x, E: t}}
}

// filter makes a condition.
func (m *maker) filter(q *api.Node, t api.Expr) (around, api.Expr) {
	truth := m.inner(q)
	t, binds := m.shared(t)
	return func(e api.Expr) api.Expr {
		return m.let(m.either(truth, e, t), binds...)
	}, m.made(t)
}

// draw makes a function that goes over the list of an NdGen.
func (m *maker) draw(q *api.Node, t api.Expr) (around, api.Expr) {
	list := m.expr(&q.Kids[1])
	t, binds := m.shared(t)
	h, us, u, ws := m.fresh(), m.fresh(), m.fresh(), m.fresh()
	onward := func() api.Expr { return m.app(m.variable(h), m.variable(ws)) }
	other := row{[]api.Node{{Kind: api.NdPAny}}, func(func() api.Expr) api.Expr { return onward() }}
	in, _ := m.first(q.Kids[:1], []string{u}, m.rows([]string{u}, []row{other}))
	return func(e api.Expr) api.Expr {
		none := api.Alt{Kind: api.AltCon, Name: "Nil", E: t}
		some := api.Alt{Kind: api.AltCon, Name: "Cons", Vars: []string{u, ws}, E: in(e)}
		step := m.lam([]string{us}, m.alternatives(m.variable(us), none, some))
		return m.let(m.app(m.variable(h), list), append(binds, api.Bind{Name: h, E: step})...)
	}, onward()
}

func (m *maker) letsAhead(q *api.Node, t api.Expr) (around, api.Expr) {
	return m.lets(q), t
}
