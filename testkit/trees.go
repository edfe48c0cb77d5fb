package testkit

import "thunkmill/api"

// Chance is where what is made by chance comes from: a *rand.Rand of a test.
type Chance interface {
	Intn(n int) int
	Int63() int64
}

// Trees makes trees by chance.
type Trees struct {
	Chance Chance
}

// Pick is one of some texts.
func (t Trees) Pick(l ...string) string { return l[t.Chance.Intn(len(l))] }

func (t Trees) oneOf(kinds []int, deep int) api.Node {
	return t.Tree(kinds[t.Chance.Intn(len(kinds))], deep)
}

func (t Trees) several(kinds []int, least, deep int) []api.Node {
	l := make([]api.Node, least+t.Chance.Intn(3))
	for i := range l {
		l[i] = t.oneOf(kinds, deep)
	}
	return l
}

func (t Trees) turns(kinds []int, deep int) []api.Node {
	l := []api.Node{t.oneOf(kinds, deep)}
	for range 1 + t.Chance.Intn(2) {
		l = append(l, t.Tree(api.NdOp, 0), t.oneOf(kinds, deep))
	}
	return l
}

func (t Trees) names(n *api.Node) {
	name, con := t.Pick("x", "f", "_y'", "aB1"), t.Pick("C", "Tup2", "X'")
	oper, conOper := t.Pick("+", "-", ".", "-->", "~~"), t.Pick(":", ":+", "::")
	switch n.Kind {
	case api.NdData, api.NdConDef:
		n.Name = con
	case api.NdFixity:
		n.Name = t.Pick("infixl", "infixr", "infix")
	case api.NdOp, api.NdLeft, api.NdRight:
		n.Name = t.Pick(name, con, oper, conOper)
	case api.NdEqn, api.NdVar:
		n.Name = t.Pick(name, name, oper)
	case api.NdCon:
		n.Name = t.Pick(con, conOper)
	case api.NdPCon:
		n.Name = con
		if len(n.Kids) == 2 {
			n.Name = t.Pick(con, conOper)
		}
	case api.NdString, api.NdPString:
		n.Name = t.Pick("", "ab", "1\n2", "\"\\", "\x00\xff", "let x")
	case api.NdPVar, api.NdPAs:
		n.Name = name
	}
}

// Tree makes a node of a kind that may be, not much deeper than told.
func (t Trees) Tree(kind, deep int) api.Node {
	n := api.Node{Kind: kind, At: t.Chance.Intn(100)}
	switch kind {
	case api.NdConDef, api.NdFixity:
		n.Num = int64(t.Chance.Intn(10))
	case api.NdInt, api.NdPInt:
		n.Num = t.Chance.Int63()
	case api.NdChar, api.NdPChar:
		n.Num = int64(t.Chance.Intn(256))
	}
	n.Kids = t.kids(kind, deep-1)
	t.names(&n)
	return n
}

// kids makes a list of kids that a kind may have; where it is deep enough small ones.
func (t Trees) kids(kind, deep int) []api.Node {
	l := limb{Trees: t, deep: deep}
	switch {
	case kind <= api.NdWhere || kind == api.NdAlt:
		return l.blockKids(kind)
	case kind <= api.NdParen:
		return l.expressionKids(kind)
	case kind <= api.NdStmt:
		return l.statementKids(kind)
	}
	return l.patternKids(kind)
}

// limb makes kids that may be so deep yet.
type limb struct {
	Trees
	deep int
}

func (l limb) of(kind int) api.Node { return l.Tree(kind, l.deep) }

func (l limb) many(least int, kinds ...int) []api.Node { return l.several(kinds, least, l.deep) }

func (l limb) expressions() []int {
	if l.deep <= 0 {
		return []int{api.NdVar, api.NdInt, api.NdString}
	}
	return Expressions()
}

func (l limb) expression() api.Node { return l.oneOf(l.expressions(), l.deep) }

func (l limb) patterns() []int {
	if l.deep <= 0 {
		return []int{api.NdPVar, api.NdPAny}
	}
	return Patterns()
}

func (l limb) pattern() api.Node { return l.oneOf(l.patterns(), l.deep) }

func (l limb) statements(least int) []api.Node {
	if l.deep <= 0 {
		return l.many(least, api.NdStmt)
	}
	return l.many(least, Statements()...)
}

func (l limb) blockKids(kind int) []api.Node {
	switch kind {
	case api.NdProgram, api.NdWhere:
		if l.deep <= 0 {
			return nil // else blocks would be in blocks without end
		}
		return l.many(0, Declarations()...)
	case api.NdData:
		return l.many(1, api.NdConDef)
	case api.NdFixity:
		return l.many(1, api.NdOp)
	case api.NdEqn:
		return append(l.many(1, l.patterns()...), l.of(api.NdRhs))
	case api.NdBind, api.NdAlt:
		return []api.Node{l.pattern(), l.of(api.NdRhs)}
	case api.NdRhs:
		return l.rightSide()
	case api.NdGuard:
		return []api.Node{l.expression(), l.expression()}
	}
	return nil
}

func (l limb) rightSide() []api.Node {
	kids := []api.Node{l.expression()}
	if l.Chance.Intn(2) == 0 {
		kids = l.many(1, api.NdGuard)
	}
	if l.Chance.Intn(3) == 0 {
		kids = append(kids, l.of(api.NdWhere))
	}
	return kids
}

func (l limb) expressionKids(kind int) []api.Node {
	switch kind {
	case api.NdApp, api.NdTuple:
		return l.many(2, l.expressions()...)
	case api.NdOps:
		return l.turns(l.expressions(), l.deep)
	case api.NdNeg, api.NdLeft, api.NdRight, api.NdParen:
		return []api.Node{l.expression()}
	case api.NdLam:
		return append(l.many(1, l.patterns()...), l.expression())
	case api.NdLet:
		return []api.Node{l.of(api.NdWhere), l.expression()}
	case api.NdIf:
		return []api.Node{l.expression(), l.expression(), l.expression()}
	case api.NdCase:
		return append([]api.Node{l.expression()}, l.many(1, api.NdAlt)...)
	case api.NdDo:
		return append(l.statements(0), l.of(api.NdStmt))
	case api.NdList:
		return l.many(0, l.expressions()...)
	case api.NdComp:
		return append([]api.Node{l.expression()}, l.statements(1)...)
	}
	return nil
}

func (l limb) statementKids(kind int) []api.Node {
	switch kind {
	case api.NdGen:
		return []api.Node{l.pattern(), l.expression()}
	case api.NdLets:
		return []api.Node{l.of(api.NdWhere)}
	}
	return []api.Node{l.expression()}
}

func (l limb) patternKids(kind int) []api.Node {
	switch kind {
	case api.NdPCon, api.NdPList:
		return l.many(0, l.patterns()...)
	case api.NdPTuple:
		return l.many(2, l.patterns()...)
	case api.NdPAs, api.NdPLazy:
		return []api.Node{l.pattern()}
	case api.NdPOps:
		return l.turns(l.patterns(), l.deep)
	}
	return nil
}
