package parse_test

import (
	"math/rand"
	"strings"

	"thunkmill/api"
)

// maker writes a text by chance, rule by rule of the grammar, and makes the tree beside it that it must be read as, with all places.
type maker struct {
	chance *rand.Rand
	text   strings.Builder
	column int
	blocks []int // the innermost one last: the column of an implied one, 0 in braces
	shut   int   // the column of the outermost implied block that has ended and has no } yet, 0 if there is none
	begins bool  // the next token begins an implied block
	exact  bool  // the next token begins a line at the innermost block's column
	comma  bool  // a comma would go on with what was written: with a fixity's operators
	last   string
}

func newMaker(seed int64) *maker {
	return &maker{chance: rand.New(rand.NewSource(seed)), column: 1}
}

func (m *maker) odds(n int) bool { return m.chance.Intn(n) == 0 }

func (m *maker) pick(l ...string) string { return l[m.chance.Intn(len(l))] }

func (m *maker) innermost() int {
	if len(m.blocks) == 0 {
		return 0
	}
	return m.blocks[len(m.blocks)-1]
}

// put writes a token behind some blanks, and tells its place.
func (m *maker) put(token string) int {
	least := m.innermost() + 1
	switch {
	case m.begins:
		// Behind a } of the text the column may be any.
		if m.blank(token); m.odds(2) || m.column <= least {
			m.newLine(least + 1 + m.chance.Intn(3))
		}
		m.blocks = append(m.blocks, m.column)
	case m.exact:
		m.newLine(least - 1)
	case m.shut > 0 && (!closes(token) || token == "," && m.comma || m.odds(3)):
		m.newLine(least + m.chance.Intn(m.shut-least))
	case m.odds(8):
		m.newLine(least + m.chance.Intn(8))
	default:
		m.blank(token)
	}
	m.begins, m.exact, m.comma, m.shut = false, false, false, 0
	at := m.text.Len()
	m.write(token)
	m.last = token
	return at
}

// closes tells whether an implied block is closed ahead of a token wherever it comes behind one.
func closes(token string) bool {
	switch token {
	case "in", ")", ",", "]", "then", "else", "of", "}":
		return true
	}
	return false
}

func (m *maker) write(s string) {
	m.text.WriteString(s)
	m.column += len(s)
}

func (m *maker) newLine(column int) {
	m.write(m.pick("", "", " ", " -- ) \" x", "{- \n ( -}"))
	m.write(strings.Repeat("\n", 1+m.chance.Intn(2)))
	m.column = 1
	m.write(strings.Repeat(" ", column-1))
}

// blank writes what parts a token from the last one on its line.
func (m *maker) blank(token string) {
	switch {
	case m.odds(20):
		m.write(" {- { -} ")
	case m.odds(2) && m.last != "{" && (isMark(token) || isMark(m.last)):
	default:
		m.write(strings.Repeat(" ", 1+m.chance.Intn(2)))
	}
}

func isMark(token string) bool { return len(token) == 1 && strings.Contains("()[],;`{}", token) }

// block writes things in a block. It tells the place of its brace.
func (m *maker) block(things int, thing func() api.Node) ([]api.Node, int) {
	if things == 0 || m.odds(3) {
		return m.braced(things, thing)
	}
	return m.implied(things, thing)
}

func (m *maker) braced(things int, thing func() api.Node) (all []api.Node, at int) {
	at = m.put("{")
	m.blocks = append(m.blocks, 0)
	for range things {
		m.idle()
		all = append(all, thing())
		if len(all) < things {
			m.put(";")
		}
	}
	m.idle()
	m.put("}")
	m.blocks = m.blocks[:len(m.blocks)-1]
	return all, at
}

// idle writes semicolons between which there is nothing.
func (m *maker) idle() {
	for m.odds(6) {
		m.put(";")
	}
}

func (m *maker) implied(things int, thing func() api.Node) (all []api.Node, at int) {
	m.begins = true
	at = -1
	if m.odds(8) {
		at = m.put(";")
	}
	for range things {
		all = append(all, thing())
		if len(all) == things {
			break
		}
		m.exact = m.odds(2)
		if !m.exact {
			m.put(";")
			m.exact = m.odds(6)
		}
	}
	if at < 0 {
		at = all[0].At
	}
	m.shut = m.innermost()
	m.blocks = m.blocks[:len(m.blocks)-1]
	return all, at
}

func (m *maker) program(deep int) api.Node {
	things, at := m.block(1+m.chance.Intn(3), func() api.Node { return m.decl(deep) })
	m.text.WriteString(m.pick("", "\n", "  ", " -- x", "\n\n "))
	return api.Node{Kind: api.NdProgram, Kids: things, At: at}
}

// several writes things with a token between them.
func (m *maker) several(least, more int, between string, thing func() api.Node) []api.Node {
	var all []api.Node
	for range least + m.chance.Intn(more+1) {
		if len(all) > 0 && between != "" {
			m.put(between)
		}
		all = append(all, thing())
	}
	return all
}

func (m *maker) name() string { return m.pick("x", "y", "f", "g'", "_a", "aB") }

func (m *maker) con() string { return m.pick("C", "D", "Just", "T'") }

func (m *maker) where(deep int) api.Node {
	things, at := m.block(m.chance.Intn(3), func() api.Node { return m.decl(deep) })
	return api.Node{Kind: api.NdWhere, Kids: things, At: at}
}

func (m *maker) decl(deep int) api.Node {
	switch m.chance.Intn(8) {
	case 0:
		n := api.Node{Kind: api.NdData, At: m.put("data"), Name: m.con()}
		m.put(n.Name)
		m.put("=")
		n.Kids = m.several(1, 2, "|", m.conDef)
		return n
	case 1:
		n := api.Node{Kind: api.NdFixity, Name: m.pick("infixl", "infixr", "infix"), Num: int64(m.chance.Intn(10))}
		n.At = m.put(n.Name)
		m.put(string(rune('0' + n.Num)))
		n.Kids = m.several(1, 2, ",", func() api.Node { return m.op(anyOp) })
		m.comma = true
		return n
	case 2, 3, 4:
		n := m.equation(deep)
		n.Kids = append(n.Kids, m.rhs(deep, "="))
		return n
	}
	p, at := m.row(deep)
	return api.Node{Kind: api.NdBind, Kids: []api.Node{p, m.rhs(deep, "=")}, At: at}
}

func (m *maker) conDef() api.Node {
	n := api.Node{Kind: api.NdConDef, Name: m.con(), Num: int64(m.chance.Intn(4))}
	n.At = m.put(n.Name)
	for range n.Num {
		m.put(m.name())
	}
	return n
}

// The operators that may be asked for.
const (
	anyOp = iota
	variableOp
	constructorOp
	sectionOp // any but -
)

func (m *maker) opName(which int) string {
	switch which {
	case anyOp:
		return m.pick("+", "-", "*", "==", ".", ":", ":+", "f", "C")
	case variableOp:
		return m.pick("+", "-", "<>", "|>", "f", "g'")
	case constructorOp:
		return m.pick(":", ":+", "C")
	}
	return m.pick("+", "--->", ":", "f", "C", "--|")
}

// op writes an operator, a name in back quotes.
func (m *maker) op(which int) api.Node {
	n := api.Node{Kind: api.NdOp, Name: m.opName(which)}
	n.At = m.putOp(n.Name)
	return n
}

func (m *maker) putOp(name string) int {
	if !strings.Contains("fg'C", name) {
		return m.put(name)
	}
	at := m.put("`")
	m.put(name)
	m.put("`")
	return at
}

// alone writes an operator in parentheses, which is a name of that kind.
func (m *maker) alone(which int) api.Node {
	n := api.Node{Kind: api.NdVar, Name: m.opName(which), At: m.put("(")}
	m.putOp(n.Name)
	m.put(")")
	if strings.Contains(":CT", n.Name[:1]) {
		n.Kind = api.NdCon
	}
	return n
}

// equation writes the left side of one; its right side is to come.
func (m *maker) equation(deep int) api.Node {
	n := api.Node{Kind: api.NdEqn}
	switch m.chance.Intn(5) {
	case 0:
		op := m.alone(variableOp)
		n.Name, n.At = op.Name, op.At
		n.Kids = m.patterns(1, deep)
	case 1:
		n.Name, n.At, n.Kids = m.infix(deep)
	case 2:
		n.At = m.put("(")
		n.Name, _, n.Kids = m.infix(deep)
		m.put(")")
		n.Kids = append(n.Kids, m.patterns(1, deep)...)
	default:
		n.Name = m.name()
		n.At = m.put(n.Name)
		n.Kids = m.patterns(1, deep)
	}
	return n
}

func (m *maker) infix(deep int) (name string, at int, operands []api.Node) {
	left, at := m.part(deep)
	op := m.op(variableOp)
	right, _ := m.part(deep)
	return op.Name, at, []api.Node{left, right}
}

func (m *maker) rhs(deep int, sign string) api.Node {
	n := api.Node{Kind: api.NdRhs}
	if m.odds(3) {
		n.Kids = m.several(1, 2, "", func() api.Node { return m.guard(deep, sign) })
		n.At = n.Kids[0].At
	} else {
		n.At = m.put(sign)
		n.Kids = []api.Node{m.ops(deep-1, true)}
	}
	if m.odds(5) && deep > 0 {
		m.put("where")
		n.Kids = append(n.Kids, m.where(deep-1))
	}
	return n
}

func (m *maker) guard(deep int, sign string) api.Node {
	n := api.Node{Kind: api.NdGuard, At: m.put("|")}
	n.Kids = []api.Node{m.ops(deep-1, true)}
	m.put(sign)
	n.Kids = append(n.Kids, m.ops(deep-1, true))
	return n
}

// Patterns: each is told with the place of its first token, as parentheses around it are no node.

func (m *maker) patterns(least, deep int) []api.Node {
	var all []api.Node
	for range least + m.chance.Intn(3) {
		p, _ := m.patternAtom(deep)
		all = append(all, p)
	}
	return all
}

// row is a pattern of operands and constructors' operators.
func (m *maker) row(deep int) (api.Node, int) {
	p, at := m.part(deep)
	if !m.odds(4) {
		return p, at
	}
	n := api.Node{Kind: api.NdPOps, Kids: []api.Node{p}, At: at}
	for range 1 + m.chance.Intn(2) {
		op := m.op(constructorOp)
		p, _ := m.part(deep)
		n.Kids = append(n.Kids, op, p)
	}
	return n, at
}

// part is an operand of a pattern.
func (m *maker) part(deep int) (api.Node, int) {
	switch {
	case m.odds(4):
		n := api.Node{Kind: api.NdPCon, Name: m.con()}
		n.At = m.put(n.Name)
		n.Kids = m.patterns(1, deep-1)
		return n, n.At
	case m.odds(8):
		n := m.alone(constructorOp)
		n.Kind = api.NdPCon
		for range 2 {
			p, _ := m.patternAtom(deep - 1)
			n.Kids = append(n.Kids, p)
		}
		return n, n.At
	}
	return m.patternAtom(deep)
}

func (m *maker) patternAtom(deep int) (api.Node, int) {
	n := api.Node{Kind: api.NdPVar, Name: m.name()}
	choice := m.chance.Intn(14)
	if deep < 0 {
		choice %= 4
	}
	inner := func() api.Node { p, _ := m.row(deep - 1); return p }
	switch choice {
	case 0:
		n = api.Node{Kind: api.NdPAny, At: m.put("_")}
	case 1:
		n = m.literal()
		n.Kind += api.NdPInt - api.NdInt
	case 2:
		n = api.Node{Kind: api.NdPCon, Name: m.con()}
		n.At = m.put(n.Name)
	case 4, 5:
		at := m.put("(")
		n = inner()
		m.put(")")
		return n, at
	case 6:
		n = api.Node{Kind: api.NdPTuple, At: m.put("(")}
		n.Kids = m.several(2, 2, ",", inner)
		m.put(")")
	case 7:
		n = api.Node{Kind: api.NdPList, At: m.put("[")}
		n.Kids = m.several(0, 3, ",", inner)
		m.put("]")
	case 8:
		n.Kind, n.At = api.NdPAs, m.put(n.Name)
		m.put("@")
		p, _ := m.patternAtom(deep - 1)
		n.Kids = []api.Node{p}
	case 9:
		n = api.Node{Kind: api.NdPLazy, At: m.put("~")}
		p, _ := m.patternAtom(deep - 1)
		n.Kids = []api.Node{p}
	case 10:
		n = m.unit()
		n.Kind = api.NdPCon
	default:
		n.At = m.put(n.Name)
	}
	return n, n.At
}

func (m *maker) unit() api.Node {
	n := api.Node{Kind: api.NdCon, Name: "Unit", At: m.put("(")}
	m.put(")")
	return n
}

func (m *maker) literal() api.Node {
	switch m.chance.Intn(3) {
	case 0:
		return api.Node{Kind: api.NdInt, Num: 17, At: m.put(m.pick("17", "0x11", "0017"))}
	case 1:
		return api.Node{Kind: api.NdChar, Num: 'a', At: m.put(m.pick("'a'", `'\97'`))}
	}
	return api.Node{Kind: api.NdString, Name: "(a", At: m.put(m.pick(`"(a"`, `"(\&a"`))}
}

// Expressions: where they are open they may end with a lambda, let or if, which would take what is behind them.

func (m *maker) ops(deep int, open bool) api.Node {
	more := m.chance.Intn(6) - 3
	kids := []api.Node{m.operand(deep, open && more <= 0)}
	for ; more > 0; more-- {
		op := m.op(anyOp)
		kids = append(kids, op, m.operand(deep, open && more == 1))
	}
	if len(kids) == 1 {
		return kids[0]
	}
	return api.Node{Kind: api.NdOps, Kids: kids, At: kids[0].At}
}

func (m *maker) operand(deep int, open bool) api.Node {
	if m.odds(8) {
		n := api.Node{Kind: api.NdNeg, At: m.put("-")}
		n.Kids = []api.Node{m.exp(deep, open)}
		return n
	}
	return m.exp(deep, open)
}

func (m *maker) exp(deep int, open bool) api.Node {
	choice := m.chance.Intn(12)
	if deep < 0 || !open && choice < 3 {
		choice = 11
	}
	switch choice {
	case 0:
		n := api.Node{Kind: api.NdLam, At: m.put(`\`)}
		n.Kids = m.patterns(1, deep-1)
		m.put("->")
		n.Kids = append(n.Kids, m.ops(deep-1, true))
		return n
	case 1:
		n := api.Node{Kind: api.NdLet, At: m.put("let")}
		n.Kids = []api.Node{m.where(deep - 1)}
		m.put("in")
		n.Kids = append(n.Kids, m.ops(deep-1, true))
		return n
	case 2:
		return m.choice(deep)
	case 3, 4:
		n := api.Node{Kind: api.NdCase, At: m.put("case")}
		n.Kids = []api.Node{m.ops(deep-1, true)}
		m.put("of")
		alts, _ := m.block(1+m.chance.Intn(2), func() api.Node { return m.alt(deep - 1) })
		n.Kids = append(n.Kids, alts...)
		return n
	case 5, 6:
		return m.do(deep)
	}
	n := api.Node{Kind: api.NdApp, Kids: []api.Node{m.atom(deep)}}
	for m.odds(2) {
		n.Kids = append(n.Kids, m.atom(deep-1))
	}
	if len(n.Kids) == 1 {
		return n.Kids[0]
	}
	n.At = n.Kids[0].At
	return n
}

func (m *maker) choice(deep int) api.Node {
	n := api.Node{Kind: api.NdIf, At: m.put("if")}
	n.Kids = []api.Node{m.ops(deep-1, true)}
	for _, word := range []string{"then", "else"} {
		switch {
		case m.odds(4):
			m.put(";")
		case m.odds(4) && m.innermost() > 0:
			m.exact = true
		}
		m.put(word)
		n.Kids = append(n.Kids, m.ops(deep-1, true))
	}
	return n
}

func (m *maker) alt(deep int) api.Node {
	p, at := m.row(deep)
	return api.Node{Kind: api.NdAlt, Kids: []api.Node{p, m.rhs(deep, "->")}, At: at}
}

func (m *maker) do(deep int) api.Node {
	n := api.Node{Kind: api.NdDo, At: m.put("do")}
	left := 1 + m.chance.Intn(3)
	n.Kids, _ = m.block(left, func() api.Node {
		left--
		return m.stmt(deep-1, left == 0)
	})
	return n
}

func (m *maker) stmt(deep int, last bool) api.Node {
	choice := m.chance.Intn(3)
	if last {
		choice = 2
	}
	switch choice {
	case 0:
		n := api.Node{Kind: api.NdLets, At: m.put("let")}
		n.Kids = []api.Node{m.where(deep - 1)}
		return n
	case 1:
		p, at := m.row(deep)
		m.put("<-")
		return api.Node{Kind: api.NdGen, Kids: []api.Node{p, m.ops(deep, true)}, At: at}
	}
	e := m.ops(deep, true)
	return api.Node{Kind: api.NdStmt, Kids: []api.Node{e}, At: e.At}
}

func (m *maker) atom(deep int) api.Node {
	choice := m.chance.Intn(14)
	if deep < 0 {
		choice %= 5
	}
	switch choice {
	case 0:
		return m.literal()
	case 1:
		n := api.Node{Kind: api.NdCon, Name: m.con()}
		n.At = m.put(n.Name)
		return n
	case 2:
		return m.unit()
	case 3:
		return m.alone(anyOp)
	case 5, 6, 7, 8, 9:
		return m.parens(deep-1, choice-5)
	case 10, 11:
		return m.brackets(deep - 1)
	}
	n := api.Node{Kind: api.NdVar, Name: m.name()}
	n.At = m.put(n.Name)
	return n
}

func (m *maker) parens(deep, choice int) api.Node {
	n := api.Node{At: m.put("(")}
	switch choice {
	case 0:
		n.Kind, n.Kids = api.NdTuple, m.several(2, 2, ",", func() api.Node { return m.ops(deep, true) })
	case 1:
		n.Kind, n.Kids = api.NdLeft, []api.Node{m.ops(deep, false)}
		n.Name = m.op(anyOp).Name
	case 2:
		n.Kind, n.Name = api.NdRight, m.op(sectionOp).Name
		n.Kids = []api.Node{m.ops(deep, true)}
	default:
		n.Kind, n.Kids = api.NdParen, []api.Node{m.ops(deep, true)}
	}
	m.put(")")
	return n
}

func (m *maker) brackets(deep int) api.Node {
	n := api.Node{Kind: api.NdList, At: m.put("[")}
	if m.odds(2) {
		n.Kids = m.several(0, 5, ",", func() api.Node { return m.ops(deep, true) })
		m.put("]")
		return n
	}
	n.Kind, n.Kids = api.NdComp, []api.Node{m.ops(deep, true)}
	m.put("|")
	n.Kids = append(n.Kids, m.several(1, 2, ",", func() api.Node { return m.stmt(deep, false) })...)
	m.put("]")
	return n
}
