package scope

import (
	"iter"
	"slices"

	"thunkmill/api"
)

// finding is a fault; of a name that is in no scope that name, too.
type finding struct {
	fault   api.Fault
	missing string
}

// findings goes through all faults of a node in a scope, in the document's order.
func findings(n api.Node, s scope) iter.Seq[finding] {
	return func(yield func(finding) bool) { walk{yield}.node(n, s) }
}

// walk hands on what it finds in nodes that may be. Each of its methods tells whether to go on.
type walk struct {
	found func(finding) bool
}

func (w walk) fault(e api.Errno, n api.Node) bool {
	return w.found(finding{fault: api.Fault{Err: e, At: n.At}})
}

func (w walk) node(n api.Node, s scope) bool {
	switch n.Kind {
	case api.NdVar:
		return w.name(n, s)
	case api.NdLeft, api.NdRight:
		return (isConstructor(n.Name) || w.name(n, s)) && w.nodes(n.Kids, s)
	case api.NdProgram:
		return w.block(n.Kids, s.with(Defines(n.Kids)))
	case api.NdWhere:
		return w.block(n.Kids, s) // what it defines stands in more than itself: whoever has it has put that into s
	case api.NdRhs, api.NdLet:
		return w.nodes(n.Kids, s.with(blockNames(n.Kids)))
	case api.NdEqn, api.NdLam, api.NdAlt:
		last := len(n.Kids) - 1
		pats := n.Kids[:last]
		return w.patterns(pats) && w.node(n.Kids[last], s.with(Names(pats)))
	case api.NdDo:
		return w.inTurn(n.Kids, s)
	case api.NdComp:
		return w.inTurn(slices.Concat(n.Kids[1:], n.Kids[:1]), s)
	}
	return w.nodes(n.Kids, s)
}

func (w walk) nodes(l []api.Node, s scope) bool {
	for _, n := range l {
		if !w.node(n, s) {
			return false
		}
	}
	return true
}

// name asks for a node's Name.
func (w walk) name(n api.Node, s scope) bool {
	return s.has(n.Name) || w.found(finding{api.Fault{Err: api.ErrScope, At: n.At}, n.Name})
}

// inTurn goes through statements, and what may stand behind them: each adds to the scope of those that follow.
func (w walk) inTurn(l []api.Node, s scope) bool {
	for _, n := range l {
		switch n.Kind {
		case api.NdGen:
			pats := n.Kids[:1]
			if !w.patterns(pats) || !w.node(n.Kids[1], s) {
				return false
			}
			s = s.with(Names(pats))
		case api.NdLets:
			s = s.with(blockNames(n.Kids))
			if !w.nodes(n.Kids, s) {
				return false
			}
		default:
			if !w.node(n, s) {
				return false
			}
		}
	}
	return true
}

// patterns asks patterns that stand together for names that come twice.
func (w walk) patterns(pats []api.Node) bool {
	known := names{}
	for named := range naming(pats) {
		if !known.add(named.Name) && !w.fault(api.ErrScope, named) {
			return false
		}
	}
	return true
}

// block goes through a list of declarations: ahead of them through what they define.
func (w walk) block(decls []api.Node, s scope) bool {
	return w.definitions(decls) && w.nodes(decls, s)
}

// definitions asks declarations for names that are defined twice, and for equations that have other numbers of patterns than the one ahead.
func (w walk) definitions(decls []api.Node) bool {
	known := names{}
	for i, d := range decls {
		switch {
		case !continues(decls, i):
			if !known.addAll(defined(d)) && !w.fault(api.ErrScope, d) {
				return false
			}
		case len(d.Kids) != len(decls[i-1].Kids):
			if !w.fault(api.ErrShape, d) {
				return false
			}
		}
	}
	return true
}

// isConstructor tells whether an operator is a constructor's.
func isConstructor(name string) bool {
	return name[0] == ':' || name[0] >= 'A' && name[0] <= 'Z'
}
