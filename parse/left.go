package parse

import "thunkmill/api"

// defined is an equation, or a binding, of a declaration's left side; its right side is to come.
func (p *parser) defined(left api.Node) api.Node {
	n := api.Node{Kind: api.NdEqn, At: left.At}
	switch {
	case isInfix(left):
		n.Name, n.Kids = left.Kids[1].Name, p.operands(left)
		return n
	case left.Kind == api.NdApp && left.Kids[0].Kind == api.NdVar:
		n.Name, n.Kids = left.Kids[0].Name, p.patterns(left.Kids[1:])
		return n
	case left.Kind == api.NdApp && left.Kids[0].Kind == api.NdParen && isInfix(left.Kids[0].Kids[0]):
		inner := left.Kids[0].Kids[0]
		n.Name, n.Kids = inner.Kids[1].Name, append(p.operands(inner), p.patterns(left.Kids[1:])...)
		return n
	}
	n.Kind, n.Kids = api.NdBind, []api.Node{p.pattern(left)}
	return n
}

// isInfix tells whether an operator that is no constructor's stands alone between two operands.
func isInfix(n api.Node) bool {
	return n.Kind == api.NdOps && len(n.Kids) == 3 && !isConstructor(n.Kids[1].Name)
}

// operands are those of an operator between two, as patterns.
func (p *parser) operands(n api.Node) []api.Node {
	return p.patterns([]api.Node{n.Kids[0], n.Kids[2]})
}

// isConstructor goes by the first byte alone: that the name is an operator's is known.
func isConstructor(name string) bool {
	return name != "" && (name[0] == ':' || 'A' <= name[0] && name[0] <= 'Z')
}

// patterns makes patterns of expressions, in their place.
func (p *parser) patterns(l []api.Node) []api.Node {
	for i := range l {
		l[i] = p.pattern(l[i])
	}
	return l
}

// pattern makes a pattern of an expression, whose memory it takes.
func (p *parser) pattern(n api.Node) api.Node {
	for n.Kind == api.NdParen {
		n = n.Kids[0]
	}
	switch n.Kind {
	case api.NdApp:
		return p.construction(n)
	case api.NdOps:
		return p.patternRow(n)
	}
	n.Kind = p.patternKind(n)
	if n.Kind == nothing {
		p.blame(n.At)
		return api.Node{}
	}
	n.Kids = p.patterns(n.Kids)
	return n
}

// construction makes a pattern of an application.
func (p *parser) construction(n api.Node) api.Node {
	head, parts := n.Kids[0], n.Kids[1:]
	if head.Kind != api.NdCon || !p.mayHave(head, len(parts)) {
		p.blame(n.At)
		return api.Node{}
	}
	return api.Node{Kind: api.NdPCon, Name: head.Name, Kids: p.patterns(parts), At: n.At}
}

// mayHave tells whether a constructor that is written as it is may have so many parts behind it.
func (p *parser) mayHave(con api.Node, parts int) bool {
	switch p.written[con.At] {
	case asUnit:
		return false
	case asOperator:
		return parts == 2
	}
	return true
}

// patternRow makes a pattern of operands and operators.
func (p *parser) patternRow(n api.Node) api.Node {
	n.Kind = api.NdPOps
	for i, k := range n.Kids {
		switch {
		case k.Kind != api.NdOp:
			n.Kids[i] = p.pattern(k)
		case !isConstructor(k.Name):
			p.blame(k.At)
		}
	}
	return n
}

// patternKind is the kind of the pattern that an expression is, nothing if it is none.
func (p *parser) patternKind(n api.Node) int {
	switch n.Kind {
	case api.NdVar:
		if p.written[n.At] == asItself {
			return api.NdPVar
		}
	case api.NdCon:
		if p.written[n.At] != asOperator {
			return api.NdPCon
		}
	case api.NdInt:
		return api.NdPInt
	case api.NdChar:
		return api.NdPChar
	case api.NdString:
		return api.NdPString
	case api.NdTuple:
		return api.NdPTuple
	case api.NdList:
		return api.NdPList
	case api.NdPAny, api.NdPAs, api.NdPLazy:
		return n.Kind
	}
	return nothing
}
