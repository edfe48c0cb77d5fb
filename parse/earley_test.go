package parse_test

import (
	"slices"
	"strings"
)

// A recognizer of grammars of all kinds, by sets of items: it tells which tokens can go on with what was read, and which spans of it are what. It knows nothing of how the package reads.

// grammar has rules; what is left of none of them is a token.
type grammar struct {
	rules  []rule
	byLeft map[string][]int
	empty  map[string]bool // what may be nothing
}

type rule struct {
	left  string
	right []string
}

// newGrammar reads rules, one a line: what is left, a :, what is right, parted by blanks.
func newGrammar(text string) *grammar {
	g := &grammar{byLeft: map[string][]int{}, empty: map[string]bool{}}
	for _, line := range strings.Split(text, "\n") {
		f := strings.Fields(line)
		if len(f) == 0 {
			continue
		}
		if len(f) < 2 || f[1] != ":" {
			panic("no rule: " + line)
		}
		g.byLeft[f[0]] = append(g.byLeft[f[0]], len(g.rules))
		g.rules = append(g.rules, rule{f[0], f[2:]})
	}
	for again := true; again; {
		again = false
		for _, r := range g.rules {
			if !g.empty[r.left] && g.allEmpty(r.right) {
				g.empty[r.left], again = true, true
			}
		}
	}
	return g
}

func (g *grammar) allEmpty(l []string) bool {
	for _, s := range l {
		if !g.empty[s] {
			return false
		}
	}
	return true
}

// item is a rule that was read up to a dot, from a token on.
type item struct{ rule, dot, from int }

// chart has a set of items ahead of each token that was read, and behind the last one.
type chart struct {
	*grammar
	sets [][]item
}

func newChart(g *grammar, start string) *chart {
	c := &chart{grammar: g}
	var first []item
	for _, r := range g.byLeft[start] {
		first = append(first, item{rule: r})
	}
	c.add(first)
	return c
}

// add puts a set behind the others, with all that follows from it.
func (c *chart) add(kernel []item) {
	here := len(c.sets)
	begun := make([]bool, len(c.rules)) // most items are of rules that begin here
	var set, others []item
	put := func(x item) {
		switch {
		case x.dot == 0 && x.from == here:
			if begun[x.rule] {
				return
			}
			begun[x.rule] = true
		case slices.Contains(others, x):
			return
		default:
			others = append(others, x)
		}
		set = append(set, x)
	}
	for _, x := range kernel {
		put(x)
	}
	for i := 0; i < len(set); i++ {
		x := set[i]
		r := c.rules[x.rule]
		if x.dot < len(r.right) {
			next := r.right[x.dot]
			for _, p := range c.byLeft[next] {
				put(item{p, 0, here})
			}
			if c.empty[next] {
				put(item{x.rule, x.dot + 1, x.from})
			}
			continue
		}
		if x.from == here {
			continue // nothing was read: that is told where it is asked for
		}
		for _, y := range c.sets[x.from] {
			if s := c.rules[y.rule]; y.dot < len(s.right) && s.right[y.dot] == r.left {
				put(item{y.rule, y.dot + 1, y.from})
			}
		}
	}
	c.sets = append(c.sets, set)
}

func (c *chart) last() []item { return c.sets[len(c.sets)-1] }

func (c *chart) kernel(token string) []item {
	var l []item
	for _, x := range c.last() {
		if r := c.rules[x.rule]; x.dot < len(r.right) && r.right[x.dot] == token {
			l = append(l, item{x.rule, x.dot + 1, x.from})
		}
	}
	return l
}

// can tells whether a token can go on with what was read.
func (c *chart) can(token string) bool { return len(c.kernel(token)) > 0 }

// read goes on with a token; what was read is none any more, if it can't.
func (c *chart) read(token string) { c.add(c.kernel(token)) }

// begins tells at which tokens those things of a name begin that end here and are followed by next within the same rule. A next that is "" asks for things behind which a rule may be over, or anything be.
func (c *chart) begins(name, next string) []int {
	var l []int
	for _, x := range c.last() {
		r := c.rules[x.rule]
		if x.dot == 0 || r.right[x.dot-1] != name || next != "" && (x.dot == len(r.right) || r.right[x.dot] != next) {
			continue
		}
		l = append(l, c.origins(x, name)...)
	}
	return l
}

// origins tells where the thing of a name that is just ahead of an item's dot may begin: such that the rest of the item was read ahead of it.
func (c *chart) origins(x item, name string) []int {
	var l []int
	for _, y := range c.last() {
		if r := c.rules[y.rule]; r.left != name || y.dot < len(r.right) {
			continue
		}
		for _, z := range c.sets[y.from] {
			if z == (item{x.rule, x.dot - 1, x.from}) {
				l = append(l, y.from)
			}
		}
	}
	return l
}
