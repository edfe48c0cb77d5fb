package desugar

import (
	"slices"

	"thunkmill/api"
	"thunkmill/core"
)

// head is a constructor or a primitive, which the core has with all its arguments alone.
type head struct {
	kind  int // of the expression
	name  string
	arity int
}

// headOf tells the constructor or primitive that a node is.
func (m *maker) headOf(n *api.Node) (head, bool) {
	switch n.Kind {
	case api.NdParen:
		return m.headOf(&n.Kids[0])
	case api.NdCon:
		return m.constructor(n.Name), true
	case api.NdVar:
		_, hidden := m.scope[n.Name]
		arity := core.Arity(n.Name)
		return head{api.ExPrim, n.Name, arity}, !hidden && arity >= 0
	}
	return head{}, false
}

// constructor tells one of a name. No one asks whether a section's operator is there: one that is not is taken as without parts.
func (m *maker) constructor(name string) head {
	c, there := m.cons[name]
	if !there {
		return head{kind: api.ExCon, name: name}
	}
	return head{api.ExCon, c.Name, c.Arity}
}

func (m *maker) with(h head, args []api.Expr) api.Expr {
	return m.made(api.Expr{Kind: h.kind, Name: h.name, Args: args})
}

// atom makes a variable, or what a constructor or a primitive is without arguments.
func (m *maker) atom(n *api.Node) api.Expr {
	h, is := m.headOf(n)
	switch {
	case !is:
		return m.use(n.Name)
	case h.arity == 0:
		return m.with(h, nil)
	}
	params := m.several(h.arity)
	args := make([]api.Expr, len(params))
	for i, name := range params {
		args[i] = m.variable(name)
	}
	return m.lam(params, m.with(h, args))
}

// use makes a variable of the tree; whoever bound it is told.
func (m *maker) use(name string) api.Expr {
	if b, bound := m.scope[name]; bound {
		b.used[name] = struct{}{}
	}
	return m.variable(name)
}

// apply makes an application; of a constructor or a primitive that has all its arguments that with these, and an application to those that are left.
func (m *maker) apply(f *api.Node, args []api.Expr) api.Expr {
	var e api.Expr
	if h, is := m.headOf(f); is && h.arity <= len(args) {
		e = m.with(h, slices.Clone(args[:h.arity]))
		args = args[h.arity:]
	} else {
		e = m.expr(f)
	}
	for some := range slices.Chunk(args, api.MaxParams) {
		e = m.app(slices.Concat([]api.Expr{e}, some)...)
	}
	return e
}

func (m *maker) application(n *api.Node) api.Expr {
	return m.apply(&n.Kids[0], m.exprs(n.Kids[1:]))
}

func (m *maker) leftSection(n *api.Node) api.Expr {
	return m.apply(operatorOf(n), m.exprs(n.Kids))
}

func (m *maker) rightSection(n *api.Node) api.Expr {
	v, x := m.fresh(), m.fresh()
	right := api.Bind{Name: v, E: m.inner(n)}
	both := []api.Expr{m.variable(x), m.variable(v)}
	return m.let(m.lam([]string{x}, m.apply(operatorOf(n), both)), right)
}

// operatorOf tells the node that a section's operator is.
func operatorOf(n *api.Node) *api.Node {
	kind := api.NdVar
	if isConstructor(n.Name) {
		kind = api.NdCon
	}
	return &api.Node{Kind: kind, Name: n.Name}
}

// isConstructor tells whether an operator is a constructor's.
func isConstructor(name string) bool {
	return name[0] == ':' || name[0] >= 'A' && name[0] <= 'Z'
}
