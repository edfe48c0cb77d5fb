package desugar

import (
	"iter"
	"slices"

	"thunkmill/api"
	"thunkmill/core"
	"thunkmill/scope"
	"thunkmill/shape"
	"thunkmill/syntax"
)

// wrongExpr tells what is wrong with what Expr is handed.
func wrongExpr(n *api.Node, cons []api.Con) api.Fault {
	if e := syntax.Check(*n); e != api.OK {
		return api.Fault{Err: e}
	}
	if !isExpression(n.Kind) || !isPlain(n) || !areCons(cons) {
		return api.Fault{Err: api.ErrArg}
	}
	// Layers 9 and 10 could be asked of a whole program alone, which would be deeper than n may be.
	known := byName(cons)
	if f := firstFault(nodes(n, fromLeft), known.wrongShape); f.Err != api.OK {
		return f
	}
	if f := firstFault(nodes(n, headLast), wrongNames); f.Err != api.OK {
		return f
	}
	return firstFault(nodes(n, fromLeft), tooManyPatterns)
}

// wrongProgram tells what is wrong with what Program is handed.
func wrongProgram(n *api.Node) api.Fault {
	if f := scope.Check(*n); f.Err != api.OK {
		return f
	}
	if slices.ContainsFunc(n.Kids, func(d api.Node) bool { return !isOfProgram(&d) && !isPlain(&d) }) {
		return api.Fault{Err: api.ErrArg}
	}
	if !slices.Contains(scope.Defines(n.Kids), "main") {
		return api.Fault{Err: api.ErrMain}
	}
	if f := firstFault(nodes(n, fromLeft), tooManyPatterns); f.Err != api.OK {
		return f
	}
	cons, _ := shape.Cons(*n)
	return firstFault(nodes(n, fromLeft), byName(cons).wrongSection)
}

// tooManyPatterns asks a node for more patterns than a function of the core may have parameters.
func tooManyPatterns(n *api.Node) api.Fault {
	if (n.Kind == api.NdEqn || n.Kind == api.NdLam) && len(n.Kids)-1 > api.MaxParams {
		return api.Fault{Err: api.ErrLong}
	}
	return api.Fault{}
}

func isExpression(kind int) bool {
	return kind >= api.NdVar && kind <= api.NdParen && kind != api.NdAlt
}

// isOfProgram tells whether a declaration is one that a program alone may have.
func isOfProgram(n *api.Node) bool {
	return n.Kind == api.NdData || n.Kind == api.NdFixity
}

// isPlain tells whether all operators in a node are in order, and no declaration in it is one that a program alone may have.
func isPlain(n *api.Node) bool {
	for k := range nodes(n, fromLeft) {
		if k.Kind == api.NdOps || k.Kind == api.NdPOps || isOfProgram(k) {
			return false
		}
	}
	return true
}

// areCons tells whether a program may have these constructors, and all that each has are there.
func areCons(l []api.Con) bool {
	main := api.Bind{Name: "main", E: api.Expr{Kind: api.ExInt}}
	if core.Check(api.Prog{Cons: l, Binds: []api.Bind{main}}) != api.OK {
		return false
	}
	known := byName(l)
	return !slices.ContainsFunc(shape.Builtin(), func(c api.Con) bool { return known[c.Name] != c })
}

// nodes goes through a node and all in it, a node ahead of its kids, these in an order.
func nodes(n *api.Node, order func(n *api.Node) iter.Seq[*api.Node]) iter.Seq[*api.Node] {
	return func(yield func(*api.Node) bool) { eachNode(n, order, yield) }
}

// eachNode tells whether to go on.
func eachNode(n *api.Node, order func(n *api.Node) iter.Seq[*api.Node], yield func(*api.Node) bool) bool {
	if !yield(n) {
		return false
	}
	for k := range order(n) {
		if !eachNode(k, order, yield) {
			return false
		}
	}
	return true
}

func fromLeft(n *api.Node) iter.Seq[*api.Node] {
	return func(yield func(*api.Node) bool) {
		for i := range n.Kids {
			if !yield(&n.Kids[i]) {
				return
			}
		}
	}
}

// headLast goes from the left, but that a comprehension's first expression is behind its other kids: it is in the scope of all of them.
func headLast(n *api.Node) iter.Seq[*api.Node] {
	if n.Kind != api.NdComp {
		return fromLeft(n)
	}
	return fromLeft(&api.Node{Kids: slices.Concat(n.Kids[1:], n.Kids[:1])})
}

func firstFault(l iter.Seq[*api.Node], wrong func(n *api.Node) api.Fault) api.Fault {
	for n := range l {
		if f := wrong(n); f.Err != api.OK {
			return f
		}
	}
	return api.Fault{}
}

// constructors has those of a program by the names that trees have for them.
type constructors map[string]api.Con

func byName(l []api.Con) constructors {
	known := make(constructors, len(l)+1)
	for _, c := range l {
		known[c.Name] = c
	}
	known[":"] = known["Cons"]
	return known
}

// wrongShape tells what layer 9 says of a node.
func (c constructors) wrongShape(n *api.Node) api.Fault {
	if n.Kind != api.NdCon && n.Kind != api.NdPCon {
		return api.Fault{}
	}
	con, there := c[n.Name]
	if !there {
		return api.Fault{Err: api.ErrScope, At: n.At}
	}
	if n.Kind == api.NdPCon && con.Arity != len(n.Kids) {
		return api.Fault{Err: api.ErrShape, At: n.At}
	}
	return api.Fault{}
}

// wrongSection tells whether a section's operator is a constructor that is none. No layer below asks for it, but core.Check would not pass a program with it.
func (c constructors) wrongSection(n *api.Node) api.Fault {
	if n.Kind != api.NdLeft && n.Kind != api.NdRight {
		return api.Fault{}
	}
	op := operatorOf(n)
	return c.wrongShape(&api.Node{Kind: op.Kind, Name: op.Name, At: n.At})
}

// wrongNames tells what layer 10 says of a node, free names being fine.
func wrongNames(n *api.Node) api.Fault {
	switch n.Kind {
	case api.NdWhere:
		return wrongBlock(n.Kids)
	case api.NdEqn, api.NdLam, api.NdAlt:
		return namedTwice(n.Kids[:len(n.Kids)-1])
	case api.NdGen:
		return namedTwice(n.Kids[:1])
	}
	return api.Fault{}
}

// names is a set of names.
type names map[string]struct{}

// add tells whether all are new, and none comes twice.
func (l names) add(more []string) bool {
	before := len(l)
	for _, name := range more {
		l[name] = struct{}{}
	}
	return len(l) == before+len(more)
}

// wrongBlock asks declarations for names that are defined twice, and for equations that have other numbers of patterns than the one ahead.
func wrongBlock(decls []api.Node) api.Fault {
	known := names{}
	for i := range decls {
		d := &decls[i]
		if i > 0 && isOneMore(&decls[i-1], d) {
			if len(d.Kids) != len(decls[i-1].Kids) {
				return api.Fault{Err: api.ErrShape, At: d.At}
			}
		} else if !known.add(scope.Defines(decls[i : i+1])) {
			return api.Fault{Err: api.ErrScope, At: d.At}
		}
	}
	return api.Fault{}
}

// namedTwice asks patterns that stand together for a name that comes twice.
func namedTwice(pats []api.Node) api.Fault {
	known := names{}
	for i := range pats {
		for n := range nodes(&pats[i], fromLeft) {
			if !known.add(scope.Names([]api.Node{{Kind: n.Kind, Name: n.Name}})) {
				return api.Fault{Err: api.ErrScope, At: n.At}
			}
		}
	}
	return api.Fault{}
}
