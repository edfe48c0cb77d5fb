package syntax

import (
	"math"

	"thunkmill/api"
	"thunkmill/lex"
)

// The greatest level of an operator, and the greatest character.
const (
	maxLevel = 9
	maxChar  = 255
)

// lexicon has the kinds of the lexemes that names are, as far as they were asked for: a tree has many nodes and few names. The kind is 0 where a name is no lexeme.
type lexicon map[string]int

func (l lexicon) kind(name string) int {
	k, ok := l[name]
	if !ok {
		k = lexemeKind(name)
		l[name] = k
	}
	return k
}

// lexemeKind tells the kind of the lexeme that all of a name is, 0 if it is none.
func lexemeKind(name string) int {
	l, _ := lex.All(name)
	if len(l) != 1 || l[0].Text != name {
		return 0
	}
	return l[0].Kind
}

// checker asks whether nodes may be.
type checker struct {
	kids  map[int][]pattern
	names lexicon
}

func check(n api.Node, names lexicon) api.Errno {
	r := room{nodes: api.MaxNodes}
	if !r.holds(&n, api.MaxDeep) {
		return api.ErrLong
	}
	c := checker{kids: kidPatterns(), names: names}
	if !c.mayBe(&n) {
		return api.ErrArg
	}
	return api.OK
}

func (c checker) mayBe(n *api.Node) bool {
	l, ok := c.kids[n.Kind]
	if !ok || !c.nameFits(n) || !numFits(n) || !fits(l, n.Kids) {
		return false
	}
	for i := range n.Kids {
		if !c.mayBe(&n.Kids[i]) {
			return false
		}
	}
	return true
}

func (c checker) nameFits(n *api.Node) bool {
	switch n.Kind {
	case api.NdString, api.NdPString:
		return true
	case api.NdFixity:
		return isSide(n.Name)
	case api.NdData, api.NdConDef:
		return c.names.kind(n.Name) == api.TokCon
	case api.NdPVar, api.NdPAs:
		return c.names.kind(n.Name) == api.TokName
	case api.NdVar, api.NdEqn:
		return isVariable(c.names.kind(n.Name))
	case api.NdCon:
		return isConstructor(c.names.kind(n.Name))
	case api.NdPCon:
		k := c.names.kind(n.Name)
		return isConstructor(k) && (k == api.TokCon || len(n.Kids) == 2)
	case api.NdOp, api.NdLeft, api.NdRight:
		k := c.names.kind(n.Name)
		return isVariable(k) || isConstructor(k)
	}
	return n.Name == ""
}

// numFits asks the same least number of all kinds: no lexeme has one below 0, so no text could tell such a node.
func numFits(n *api.Node) bool { return 0 <= n.Num && n.Num <= greatestNum(n.Kind) }

// greatestNum is 0 of the kinds that have no number.
func greatestNum(kind int) int64 {
	switch kind {
	case api.NdInt, api.NdPInt:
		return math.MaxInt64
	case api.NdChar, api.NdPChar:
		return maxChar
	case api.NdConDef:
		return api.MaxParams
	case api.NdFixity:
		return maxLevel
	}
	return 0
}

// isSide tells whether a word says at which side operators hold.
func isSide(word string) bool {
	switch word {
	case "infixl", "infixr", "infix":
		return true
	}
	return false
}

func isVariable(kind int) bool { return kind == api.TokName || kind == api.TokOp }

func isConstructor(kind int) bool { return kind == api.TokCon || kind == api.TokConOp }

// isSymbols tells whether lexemes of a kind are made of symbols: where a name is asked for they stand in parentheses, and others in back quotes where an operator is.
func isSymbols(kind int) bool { return kind == api.TokOp || kind == api.TokConOp }
