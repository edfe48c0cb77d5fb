package desugar

import (
	"thunkmill/api"
	"thunkmill/core"
	"thunkmill/match"
)

// counts is what a pattern comes to, counted ahead: of a pattern with many names, each of which stands for all of it, no memory could hold what comes.
type counts struct {
	choices int // cases, those in lazy patterns aside
	lets    int // of names, likewise
	names   int // that are used
	lazy    int // expressions of lazy patterns, all told, where each used name is asked for on its own
	one     int // expressions of lazy patterns, where all used names are asked for at once
}

// manyExprs is more than may be. Counts that grow faster than a tree go no further, so that they never wrap.
const manyExprs = 1 << 30

// tally counts what a pattern comes to, where these names are used.
func tally(p *api.Node, used names) counts {
	var c counts
	for i := range p.Kids {
		c.add(tally(&p.Kids[i], used))
	}
	switch p.Kind {
	case api.NdPVar, api.NdPAs:
		c.lets++
		if _, is := used[p.Name]; is {
			c.names++
		}
	case api.NdPInt, api.NdPChar, api.NdPCon, api.NdPTuple:
		c.choices++
	case api.NdPString:
		c.choices += 2*len(p.Name) + 1
	case api.NdPList:
		c.choices += len(p.Kids) + 1
	case api.NdPLazy:
		return c.lazily()
	}
	return c
}

func (c *counts) add(d counts) {
	c.lets += d.lets
	c.names += d.names
	c.choices = min(c.choices+d.choices, manyExprs)
	c.lazy = min(c.lazy+d.lazy, manyExprs)
	c.one = min(c.one+d.one, manyExprs)
}

// lazily is what a lazy pattern comes to: a let of what its used names are.
func (c counts) lazily() counts {
	if c.names == 0 {
		return counts{}
	}
	all := c.alone()
	return counts{names: c.names, lazy: c.names + all, one: 1 + all}
}

// alone tells how many expressions come, if each used name is what comes behind a pattern of its own, with the failure if that does not fit.
func (c counts) alone() int {
	return min(c.names*(1+c.strictly(core.Size(match.Failure())))+c.lazy, manyExprs)
}

// inRow tells how many expressions come, what comes behind the pattern aside.
func (c counts) inRow() int {
	return c.strictly(1) + c.one
}

// strictly tells how many expressions the choices and lets have, no being so many.
func (c counts) strictly(no int) int {
	return c.choices*(2+no) + 2*c.lets
}
