package parse

import "thunkmill/api"

const maxLevel = 9

// program reads all of a program.
func (p *parser) program() api.Node {
	n := p.decls()
	n.Kind = api.NdProgram
	return n
}

// alone reads an expression in a block of its own.
func (p *parser) alone() api.Node {
	p.want("{")
	n := p.expression()
	p.end()
	return n
}

// decls reads a block of declarations.
func (p *parser) decls() api.Node {
	things, at, _ := p.block(p.decl)
	return api.Node{Kind: api.NdWhere, Kids: things, At: at}
}

func (p *parser) decl() api.Node {
	switch {
	case p.at("data"):
		return p.data()
	case p.at("infixl"), p.at("infixr"), p.at("infix"):
		return p.fixity()
	case p.opsBegin():
		return p.definition()
	}
	return api.Node{}
}

func (p *parser) data() api.Node {
	at := p.take().At
	name := p.wantKind(api.TokCon).Text
	p.want("=")
	return api.Node{Kind: api.NdData, Name: name, Kids: list(p.conDef, p.bar), At: at}
}

func (p *parser) conDef() api.Node {
	con := p.wantKind(api.TokCon)
	var parts []api.Token
	if p.atName() {
		parts = list(p.take, p.atName)
	}
	if len(parts) > api.MaxParams {
		p.refuse(api.ErrSyntax, parts[api.MaxParams].At)
	}
	return api.Node{Kind: api.NdConDef, Name: con.Text, Num: int64(len(parts)), At: con.At}
}

func (p *parser) atName() bool { return p.next.Kind == api.TokName }

func (p *parser) fixity() api.Node {
	side := p.take()
	if p.next.Num > maxLevel {
		p.fail()
	}
	level := p.wantKind(api.TokInt).Num
	return api.Node{Kind: api.NdFixity, Name: side.Text, Num: level, Kids: list(p.op, p.comma), At: side.At}
}

// definition reads an equation, or what a pattern is bound to.
func (p *parser) definition() api.Node {
	n := p.defined(p.left("="))
	n.Kids = append(n.Kids, p.rhs("="))
	return n
}

// alt reads an alternative.
func (p *parser) alt() api.Node {
	if !p.opsBegin() {
		return api.Node{}
	}
	left := p.left("->")
	// The left side's place, since parentheses around the pattern are not kept.
	return api.Node{Kind: api.NdAlt, Kids: []api.Node{p.pattern(left), p.rhs("->")}, At: left.At}
}

// left reads a left side, as an expression yet, behind which a right side of this sign must begin.
func (p *parser) left(sign string) api.Node {
	since := len(p.loose)
	left := p.ops()
	if !p.at(sign) && !p.at("|") {
		p.fail()
	}
	p.settle(since)
	return left
}

// rhs reads a right side whose expressions stand behind this sign.
func (p *parser) rhs(sign string) api.Node {
	n := api.Node{Kind: api.NdRhs, At: p.next.At}
	if p.at("|") {
		n.Kids = list((&guards{p, sign}).guard, p.atBar)
	} else {
		p.want(sign)
		n.Kids = []api.Node{p.expression()}
	}
	if p.skip("where") {
		n.Kids = append(n.Kids, p.decls())
	}
	return n
}

// guards reads guards in which this sign is between condition and expression.
type guards struct {
	*parser
	sign string
}

func (g *guards) guard() api.Node {
	at := g.want("|").At
	condition := g.expression()
	g.want(g.sign)
	return api.Node{Kind: api.NdGuard, Kids: []api.Node{condition, g.expression()}, At: at}
}

func (p *parser) atBar() bool { return p.at("|") }

// stmt reads a statement.
func (p *parser) stmt() api.Node {
	at, since := p.next.At, len(p.loose)
	var e api.Node
	switch {
	case p.at("let"):
		p.take()
		lets := p.decls()
		if !p.at("in") {
			return api.Node{Kind: api.NdLets, Kids: []api.Node{lets}, At: at}
		}
		e = p.letIn(at, lets)
	case p.opsBegin():
		e = p.ops()
	default:
		return api.Node{}
	}
	if p.at("<-") {
		p.settle(since)
		left := p.pattern(e)
		p.want("<-")
		return api.Node{Kind: api.NdGen, Kids: []api.Node{left, p.expression()}, At: at}
	}
	p.blameLoose(since)
	return api.Node{Kind: api.NdStmt, Kids: []api.Node{e}, At: at}
}

// qual reads what stands behind the | of a list: a statement, which must be there.
func (p *parser) qual() api.Node {
	if !p.opsBegin() {
		p.fail()
	}
	return p.stmt()
}
