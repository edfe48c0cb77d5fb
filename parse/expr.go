package parse

import "thunkmill/api"

// expression reads operands and operators around which there is no left side.
func (p *parser) expression() api.Node {
	since := len(p.loose)
	n := p.ops()
	p.blameLoose(since)
	return n
}

// ops reads operands and operators. It may turn out that they are a left side, or within one.
func (p *parser) ops() api.Node {
	return row(p.turns(p.operand(), false))
}

// opsBegin tells whether operands and operators may begin with what comes next.
func (p *parser) opsBegin() bool {
	switch {
	case p.atMinus(), p.atomBegins(), p.at(`\`), p.at("let"), p.at("if"), p.at("case"), p.at("do"):
		return true
	}
	return false
}

// turns reads what is behind a first operand, operators and operands by turns. A section may end with an operator.
func (p *parser) turns(first api.Node, section bool) []api.Node {
	all := []api.Node{first}
	for p.opBegins() {
		all = append(all, p.op())
		if section && p.at(")") {
			break
		}
		all = append(all, p.operand())
	}
	return all
}

// row is one node of operands and operators by turns.
func row(turns []api.Node) api.Node {
	if len(turns) == 1 {
		return turns[0]
	}
	return api.Node{Kind: api.NdOps, Kids: turns, At: turns[0].At}
}

func (p *parser) operand() api.Node {
	if p.atMinus() {
		return p.negation(p.take())
	}
	return p.exp()
}

// negation reads what is behind the - of a negation.
func (p *parser) negation(minus api.Token) api.Node {
	return api.Node{Kind: api.NdNeg, Kids: []api.Node{p.exp()}, At: minus.At}
}

func (p *parser) atMinus() bool { return p.next.Kind == api.TokOp && p.next.Text == "-" }

func (p *parser) opBegins() bool {
	return p.next.Kind == api.TokOp || p.next.Kind == api.TokConOp || p.at("`")
}

func (p *parser) op() api.Node {
	n := api.Node{Kind: api.NdOp, At: p.next.At}
	if p.skip("`") {
		n.Name = p.wantKind(api.TokName, api.TokCon).Text
		p.want("`")
		return n
	}
	n.Name = p.wantKind(api.TokOp, api.TokConOp).Text
	return n
}

func (p *parser) exp() api.Node {
	switch {
	case p.at(`\`):
		return p.lambda()
	case p.at("let"):
		at := p.take().At
		return p.letIn(at, p.decls())
	case p.at("if"):
		return p.choice()
	case p.at("case"):
		return p.cases()
	case p.at("do"):
		return p.do()
	}
	return p.application()
}

func (p *parser) application() api.Node {
	atoms := list(p.atom, p.atomBegins)
	if len(atoms) == 1 {
		return atoms[0]
	}
	return api.Node{Kind: api.NdApp, Kids: atoms, At: atoms[0].At}
}

func (p *parser) lambda() api.Node {
	at, since := p.take().At, len(p.loose)
	atoms := list(p.atom, p.atomBegins)
	if !p.at("->") {
		p.fail()
	}
	p.settle(since)
	kids := p.patterns(atoms)
	p.want("->")
	return api.Node{Kind: api.NdLam, Kids: append(kids, p.expression()), At: at}
}

// letIn reads what is behind the declarations of a let.
func (p *parser) letIn(at int, decls api.Node) api.Node {
	p.want("in")
	return api.Node{Kind: api.NdLet, Kids: []api.Node{decls, p.expression()}, At: at}
}

// choice reads an if.
func (p *parser) choice() api.Node {
	at := p.take().At
	condition := p.expression()
	p.semicolon()
	p.want("then")
	yes := p.expression()
	p.semicolon()
	p.want("else")
	no := p.expression()
	return api.Node{Kind: api.NdIf, Kids: []api.Node{condition, yes, no}, At: at}
}

func (p *parser) cases() api.Node {
	at := p.take().At
	kids := []api.Node{p.expression()}
	p.want("of")
	alts, _, ends := p.block(p.alt)
	if len(alts) == 0 {
		p.refuse(api.ErrSyntax, ends)
	}
	return api.Node{Kind: api.NdCase, Kids: append(kids, alts...), At: at}
}

func (p *parser) do() api.Node {
	at := p.take().At
	stmts, _, ends := p.block(p.stmt)
	if len(stmts) == 0 || stmts[len(stmts)-1].Kind != api.NdStmt {
		p.refuse(api.ErrSyntax, ends)
	}
	return api.Node{Kind: api.NdDo, Kids: stmts, At: at}
}
