package parse

import "thunkmill/api"

// maxParts is how many parts a tuple has at most.
const maxParts = 4

// atomBegins tells whether an atom begins with what comes next.
func (p *parser) atomBegins() bool {
	switch p.next.Kind {
	case api.TokName, api.TokCon, api.TokInt, api.TokChar, api.TokString:
		return true
	}
	return p.at("(") || p.at("[") || p.at("_") || p.at("~")
}

func (p *parser) atom() api.Node {
	n := api.Node{Kind: literalKind(p.next.Kind), At: p.next.At}
	switch {
	case n.Kind != nothing:
		t := p.take()
		n.Name, n.Num = t.Text, t.Num
		return n
	case p.atName():
		return p.named()
	case p.at("_"):
		p.takeLoose()
		n.Kind = api.NdPAny
		return n
	case p.at("~"):
		p.takeLoose()
		n.Kind, n.Kids = api.NdPLazy, []api.Node{p.atom()}
		return n
	case p.at("("):
		return p.parens()
	case p.at("["):
		return p.brackets()
	}
	p.fail()
	return api.Node{}
}

// literalKind is the kind of the node that a token is all by itself.
func literalKind(kind int) int {
	switch kind {
	case api.TokCon:
		return api.NdCon
	case api.TokInt:
		return api.NdInt
	case api.TokChar:
		return api.NdChar
	case api.TokString:
		return api.NdString
	}
	return nothing
}

// takeLoose takes one of _ @ ~ .
func (p *parser) takeLoose() {
	p.loose = append(p.loose, p.take().At)
}

func (p *parser) named() api.Node {
	name := p.take()
	n := api.Node{Kind: api.NdVar, Name: name.Text, At: name.At}
	if p.at("@") {
		p.takeLoose()
		n.Kind, n.Kids = api.NdPAs, []api.Node{p.atom()}
	}
	return n
}

// parens reads what begins with a ( .
func (p *parser) parens() api.Node {
	at, since := p.take().At, len(p.loose)
	switch {
	case p.skip(")"):
		p.written[at] = asUnit
		return api.Node{Kind: api.NdCon, Name: "Unit", At: at}
	case p.atMinus():
		minus := p.take()
		if p.skip(")") {
			return p.operator(minus.Text, at)
		}
		return p.enclosed(at, since, p.negation(minus))
	case p.opBegins():
		op := p.op()
		if p.skip(")") {
			return p.operator(op.Name, at)
		}
		n := api.Node{Kind: api.NdRight, Name: op.Name, Kids: []api.Node{p.expression()}, At: at}
		p.want(")")
		return n
	}
	return p.enclosed(at, since, p.exp())
}

// operator is an operator that stands alone in parentheses.
func (p *parser) operator(name string, at int) api.Node {
	p.written[at] = asOperator
	n := api.Node{Kind: api.NdVar, Name: name, At: at}
	if isConstructor(name) {
		n.Kind = api.NdCon
	}
	return n
}

// enclosed reads what is behind a first operand in parentheses.
func (p *parser) enclosed(at, since int, first api.Node) api.Node {
	turns := p.turns(first, true)
	n := api.Node{At: at}
	if last := len(turns) - 1; last%2 == 1 {
		p.blameLoose(since)
		n.Kind, n.Name, n.Kids = api.NdLeft, turns[last].Name, []api.Node{row(turns[:last])}
	} else {
		n.Kind, n.Kids = api.NdParen, []api.Node{row(turns)}
		if p.comma() {
			further := &counted{p, maxParts - 2}
			n.Kind, n.Kids = api.NdTuple, append(n.Kids, list(p.ops, further.comma)...)
		}
	}
	p.want(")")
	return n
}

// counted takes only so many commas.
type counted struct {
	*parser
	commas int
}

func (c *counted) comma() bool {
	c.commas--
	return c.commas >= 0 && c.parser.comma()
}

// brackets reads what begins with a [ .
func (p *parser) brackets() api.Node {
	n := api.Node{Kind: api.NdList, At: p.take().At}
	if p.skip("]") {
		return n
	}
	since := len(p.loose)
	n.Kids = []api.Node{p.ops()}
	switch {
	case p.at("|"):
		p.blameLoose(since)
		p.bar()
		n.Kind, n.Kids = api.NdComp, append(n.Kids, list(p.qual, p.comma)...)
	case p.comma():
		n.Kids = append(n.Kids, list(p.ops, p.comma)...)
	}
	p.want("]")
	return n
}
