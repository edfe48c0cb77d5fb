package syntax

import (
	"thunkmill/api"
	"thunkmill/lex"
)

// writer is what a text is written into.
type writer interface {
	WriteString(text string) (int, error)
}

// write puts the lexemes of tokens into a text, as lex.Join does.
func write(w writer, l []api.Token) {
	for i, t := range l {
		if i > 0 {
			w.WriteString(" ")
		}
		w.WriteString(lex.Text(t))
	}
}

// teller tells the lexemes of nodes that may be.
type teller struct {
	names lexicon
	told  []api.Token
}

func mark(text string) api.Token { return api.Token{Kind: api.TokMark, Text: text} }

func sign(text string) api.Token { return api.Token{Kind: api.TokSign, Text: text} }

func word(text string) api.Token { return api.Token{Kind: api.TokWord, Text: text} }

func number(n int64) api.Token { return api.Token{Kind: api.TokInt, Num: n} }

func (t *teller) put(l ...api.Token) {
	t.told = append(t.told, l...)
}

// name tells a name, or an operator in parentheses.
func (t *teller) name(name string) {
	it := api.Token{Kind: t.names.kind(name), Text: name}
	if isSymbols(it.Kind) {
		t.put(mark("("), it, mark(")"))
		return
	}
	t.put(it)
}

// operator tells an operator, or a name in back quotes.
func (t *teller) operator(name string) {
	it := api.Token{Kind: t.names.kind(name), Text: name}
	if isSymbols(it.Kind) {
		t.put(it)
		return
	}
	t.put(mark("`"), it, mark("`"))
}

// node tells a node where no atom is asked for.
func (t *teller) node(n api.Node) {
	switch {
	case n.Kind <= api.NdWhere:
		t.declaration(n)
	case n.Kind <= api.NdStmt:
		t.expression(n)
	default:
		t.pattern(n)
	}
}

// atom tells a node where an atom is asked for.
func (t *teller) atom(n api.Node) {
	if isAtom(n) {
		t.node(n)
		return
	}
	t.put(mark("("))
	t.node(n)
	t.put(mark(")"))
}

func isAtom(n api.Node) bool {
	switch k := n.Kind; {
	case k == api.NdPCon:
		return len(n.Kids) == 0
	case api.NdVar <= k && k <= api.NdString, api.NdTuple <= k && k <= api.NdParen:
		return true
	case api.NdPVar <= k && k <= api.NdPString, api.NdPTuple <= k && k <= api.NdPLazy:
		return true
	}
	return false
}

func (t *teller) atoms(l []api.Node) {
	for _, n := range l {
		t.atom(n)
	}
}

// turns tells operands and operators.
func (t *teller) turns(l []api.Node) {
	for _, n := range l {
		if n.Kind == api.NdOp {
			t.node(n)
			continue
		}
		t.atom(n)
	}
}

// parted tells nodes with a token between them.
func (t *teller) parted(l []api.Node, by api.Token) {
	for i, n := range l {
		if i > 0 {
			t.put(by)
		}
		t.node(n)
	}
}

// enclosed tells nodes parted by commas, between two marks.
func (t *teller) enclosed(from string, l []api.Node, to string) {
	t.put(mark(from))
	t.parted(l, mark(","))
	t.put(mark(to))
}

// block tells nodes in braces, each with a semicolon behind it.
func (t *teller) block(l []api.Node) {
	t.put(mark("{"))
	for _, n := range l {
		t.node(n)
		t.put(mark(";"))
	}
	t.put(mark("}"))
}

// right tells a right side whose expressions stand behind a sign: that of an alternative has another one.
func (t *teller) right(n api.Node, s string) {
	for _, k := range n.Kids {
		switch k.Kind {
		case api.NdGuard:
			t.guard(k, s)
		case api.NdWhere:
			t.put(word("where"))
			t.node(k)
		default:
			t.put(sign(s))
			t.node(k)
		}
	}
}

func (t *teller) guard(n api.Node, s string) {
	t.put(sign("|"))
	t.node(n.Kids[0])
	t.put(sign(s))
	t.node(n.Kids[1])
}
