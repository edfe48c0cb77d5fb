package testkit

import (
	"math"
	"slices"

	"thunkmill/api"
)

// The kinds of nodes that the chapters have one word for.

// Declarations are the kinds of a block's parts.
func Declarations() []int { return []int{api.NdData, api.NdFixity, api.NdEqn, api.NdBind} }

// Expressions are the kinds from a variable to parentheses, but for an alternative.
func Expressions() []int {
	return append(Span(api.NdVar, api.NdCase), Span(api.NdDo, api.NdParen)...)
}

// Statements are the kinds of a do's parts.
func Statements() []int { return []int{api.NdGen, api.NdLets, api.NdStmt} }

// Patterns are the kinds from a name to operators in a pattern.
func Patterns() []int { return Span(api.NdPVar, api.NdPOps) }

// Span are all numbers from one to another.
func Span(from, to int) []int {
	var l []int
	for k := from; k <= to; k++ {
		l = append(l, k)
	}
	return l
}

// Each calls f with each node of a tree, a node ahead of its kids.
func Each(n *api.Node, f func(n *api.Node)) {
	f(n)
	for i := range n.Kids {
		Each(&n.Kids[i], f)
	}
}

// Copied is a node in memory of its own, all of it.
func Copied(n api.Node) api.Node {
	n.Kids = slices.Clone(n.Kids)
	for i := range n.Kids {
		n.Kids[i] = Copied(n.Kids[i])
	}
	return n
}

// Placed is a node with a place of its own at each node, from 7 on.
func Placed(n api.Node) api.Node {
	n = Copied(n)
	at := 6
	Each(&n, func(n *api.Node) { at++; n.At = at })
	return n
}

// Spare is a node whose lists of kids have spare room, with marked nodes in it.
func Spare(n api.Node) api.Node {
	kids := make([]api.Node, len(n.Kids), len(n.Kids)+3)
	for i, k := range n.Kids {
		kids[i] = Spare(k)
	}
	for i := range 3 {
		kids[:cap(kids)][len(kids)+i] = Marked()
	}
	n.Kids = kids
	return n
}

// Marked is a node that no call answers.
func Marked() api.Node {
	kid := api.Node{Kind: api.NdVar, Name: "marked"}
	return api.Node{Kind: math.MinInt, Name: "a mark", Num: -9, At: -9, Kids: []api.Node{kid}}
}

// Overwrite changes all that can be reached of a tree, the spare room of its lists too.
func Overwrite(n *api.Node) {
	kids := n.Kids[:cap(n.Kids)]
	for i := range kids {
		Overwrite(&kids[i])
	}
	n.Kind, n.Name, n.Num, n.At = -5, "overwritten", -5, -5
}
