package desugar

import (
	"cmp"
	"maps"
	"slices"

	"thunkmill/api"
	"thunkmill/groups"
	"thunkmill/match"
	"thunkmill/scope"
)

// bound is a binding, and the names of its own block that are free in it.
type bound struct {
	api.Bind
	uses []string
}

// right makes an NdRhs.
func (m *maker) right(n *api.Node, no func() api.Expr) api.Expr {
	l := n.Kids
	last := len(l) - 1
	if l[last].Kind != api.NdWhere {
		return m.guarded(l, no)
	}
	in := m.declared(l[last].Kids)
	return in(m.guarded(l[:last], no))
}

// guarded makes an expression alone, or guards.
func (m *maker) guarded(l []api.Node, no func() api.Expr) api.Expr {
	if l[0].Kind != api.NdGuard {
		return m.expr(&l[0])
	}
	e := no()
	for i := range slices.Backward(l) {
		both := m.exprs(l[i].Kids)
		e = m.either(both[0], both[1], e)
	}
	return e
}

func (m *maker) letIn(n *api.Node) api.Expr {
	in := m.declared(n.Kids[0].Kids)
	return in(m.expr(&n.Kids[1]))
}

// declared makes declarations around an expression.
func (m *maker) declared(decls []api.Node) around {
	b := m.enter(scope.Defines(decls))
	l := m.bindings(decls, b, m.fresh)
	return func(e api.Expr) api.Expr {
		b.leave()
		return m.grouped(l, e)
	}
}

// grouped makes a let for each group of bindings, one in another.
func (m *maker) grouped(l []bound, e api.Expr) api.Expr {
	all, uses := make([]string, len(l)), make([][]string, len(l))
	for i := range l {
		all[i], uses[i] = l[i].Name, l[i].uses
	}
	order, err := groups.Of(all, uses)
	if err != api.OK {
		m.room = -1 // there are more bindings than can be parted
	}
	for _, group := range slices.Backward(order) {
		binds := make([]api.Bind, len(group))
		for i, place := range group {
			binds[i] = l[place].Bind
		}
		e = m.let(e, binds...)
	}
	return e
}

// bindings makes what declarations bind, in order. Those of patterns that are no names have a name of their own for what is taken apart.
func (m *maker) bindings(decls []api.Node, b *block, whole func() string) []bound {
	var l []bound
	for len(decls) > 0 {
		n := together(decls)
		switch decls[0].Kind {
		case api.NdEqn:
			rows := m.rowsOf(decls[:n])
			l = append(l, b.binding(decls[0].Name, func() api.Expr { return m.function(rows...) }))
		case api.NdBind:
			l = append(l, m.bindingsOf(decls[0].Kids, b, whole)...)
		}
		decls = decls[n:]
	}
	return l
}

// together tells how many declarations, from the first on, are one: equations of one function.
func together(decls []api.Node) int {
	n := 1
	for n < len(decls) && isOneMore(&decls[n-1], &decls[n]) {
		n++
	}
	return n
}

// isOneMore tells whether a declaration is one more equation of the function ahead of it.
func isOneMore(ahead, d *api.Node) bool {
	return ahead.Kind == api.NdEqn && d.Kind == api.NdEqn && ahead.Name == d.Name
}

// binding makes a binding, and notes what it uses.
func (b *block) binding(name string, what func() api.Expr) bound {
	b.used = names{}
	e := what()
	return bound{api.Bind{Name: name, E: e}, slices.Sorted(maps.Keys(b.used))}
}

// bindingsOf makes those of a pattern and its right side.
func (m *maker) bindingsOf(kids []api.Node, b *block, whole func() string) []bound {
	p, right := &kids[0], &kids[1]
	made := func() api.Expr { return m.right(right, m.failure) }
	if p.Kind == api.NdPVar {
		return []bound{b.binding(p.Name, made)}
	}
	v := whole()
	return append([]bound{b.binding(v, made)}, m.parts(p, v)...)
}

// parts makes what each name of a pattern is. The names within need not be others than those without: none of these is free there.
func (m *maker) parts(p *api.Node, v string) []bound {
	all, used := scope.Names([]api.Node{*p}), names{}
	used.add(all)
	if !m.take(tally(p, used).alone()) {
		return nil
	}
	l, cons := make([]bound, len(all)), m.consIn(p)
	for i, name := range all {
		e, _ := match.Pattern(cons, *p, v, api.Expr{Kind: api.ExVar, Name: name}, match.Failure())
		l[i] = bound{api.Bind{Name: name, E: e}, []string{v}}
	}
	return l
}

// program makes a program's bindings, by rising name.
func (m *maker) program(decls []api.Node) []api.Bind {
	b := m.enter(scope.Defines(decls))
	made := m.bindings(decls, b, generator(topLevelAhead))
	l := make([]api.Bind, len(made))
	for i := range made {
		l[i] = made[i].Bind
	}
	slices.SortFunc(l, func(a, b api.Bind) int { return cmp.Compare(a.Name, b.Name) })
	return l
}
