package syntax

import "thunkmill/api"

// partName stands for each part of a constructor that is defined.
const partName = "a"

// declaration tells a node of the kinds of declarations, and what these are made of.
func (t *teller) declaration(n api.Node) {
	l := n.Kids
	switch n.Kind {
	case api.NdProgram, api.NdWhere:
		t.block(l)
	case api.NdData:
		t.put(word("data"))
		t.name(n.Name)
		t.put(sign("="))
		t.parted(l, sign("|"))
	case api.NdConDef:
		t.name(n.Name)
		for range n.Num {
			t.name(partName)
		}
	case api.NdFixity:
		t.put(word(n.Name), number(n.Num))
		t.parted(l, mark(","))
	case api.NdOp:
		t.operator(n.Name)
	case api.NdEqn:
		last := len(l) - 1
		t.name(n.Name)
		t.atoms(l[:last])
		t.right(l[last], "=")
	case api.NdBind:
		t.node(l[0])
		t.right(l[1], "=")
	case api.NdRhs:
		t.right(n, "=")
	case api.NdGuard:
		t.guard(n, "=")
	}
}

// expression tells a node of the kinds of expressions, and what these are made of.
func (t *teller) expression(n api.Node) {
	l := n.Kids
	switch n.Kind {
	case api.NdVar, api.NdCon:
		t.name(n.Name)
	case api.NdInt, api.NdChar, api.NdString:
		t.put(literal(n))
	case api.NdApp:
		t.atoms(l)
	case api.NdOps:
		t.turns(l)
	case api.NdNeg:
		t.operator("-")
		t.atom(l[0])
	case api.NdTuple:
		t.enclosed("(", l, ")")
	case api.NdList:
		t.enclosed("[", l, "]")
	case api.NdLeft:
		t.put(mark("("))
		t.atom(l[0])
		t.operator(n.Name)
		t.put(mark(")"))
	case api.NdRight:
		t.put(mark("("))
		t.operator(n.Name)
		t.atom(l[0])
		t.put(mark(")"))
	case api.NdParen:
		t.enclosed("(", l, ")")
	default:
		t.construct(n)
	}
}

// construct tells an expression that begins with a word or a sign, or has statements, and what these are made of.
func (t *teller) construct(n api.Node) {
	l := n.Kids
	switch n.Kind {
	case api.NdLam:
		last := len(l) - 1
		t.put(sign(`\`))
		t.atoms(l[:last])
		t.put(sign("->"))
		t.node(l[last])
	case api.NdLet:
		t.put(word("let"))
		t.node(l[0])
		t.put(word("in"))
		t.node(l[1])
	case api.NdIf:
		for i, w := range []string{"if", "then", "else"} {
			t.put(word(w))
			t.node(l[i])
		}
	case api.NdCase:
		t.put(word("case"))
		t.node(l[0])
		t.put(word("of"))
		t.block(l[1:])
	case api.NdAlt:
		t.node(l[0])
		t.right(l[1], "->")
	case api.NdDo:
		t.put(word("do"))
		t.block(l)
	case api.NdComp:
		t.put(mark("["))
		t.node(l[0])
		t.put(sign("|"))
		t.parted(l[1:], mark(","))
		t.put(mark("]"))
	case api.NdGen:
		t.node(l[0])
		t.put(sign("<-"))
		t.node(l[1])
	case api.NdLets:
		t.put(word("let"))
		t.node(l[0])
	case api.NdStmt:
		t.node(l[0])
	}
}

func (t *teller) pattern(n api.Node) {
	l := n.Kids
	switch n.Kind {
	case api.NdPVar:
		t.name(n.Name)
	case api.NdPAny:
		t.put(word("_"))
	case api.NdPInt, api.NdPChar, api.NdPString:
		t.put(literal(n))
	case api.NdPCon:
		t.name(n.Name)
		t.atoms(l)
	case api.NdPTuple:
		t.enclosed("(", l, ")")
	case api.NdPList:
		t.enclosed("[", l, "]")
	case api.NdPAs:
		t.name(n.Name)
		t.put(sign("@"))
		t.atom(l[0])
	case api.NdPLazy:
		t.put(sign("~"))
		t.atom(l[0])
	case api.NdPOps:
		t.turns(l)
	}
}

// literal makes the token of a number, a character or a string.
func literal(n api.Node) api.Token {
	switch n.Kind {
	case api.NdInt, api.NdPInt:
		return number(n.Num)
	case api.NdChar, api.NdPChar:
		return api.Token{Kind: api.TokChar, Num: n.Num}
	}
	return api.Token{Kind: api.TokString, Text: n.Name}
}
