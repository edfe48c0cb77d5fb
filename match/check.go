package match

import (
	"slices"

	"thunkmill/api"
	"thunkmill/core"
	"thunkmill/scope"
	"thunkmill/shape"
	"thunkmill/syntax"
)

// mostRows is how many rows there may be.
const mostRows = 1000

// coming is what there is to know of what comes, ahead of all patterns that it comes behind.
type coming struct {
	asTold bool // as core's table says
	fits   bool // neither too great nor too deep
}

func lookAt(e *api.Expr) coming {
	fits := core.Size(*e) > 0
	return coming{asTold: asTold(e, fits), fits: fits}
}

// mayFailBy tells whether an expression is one that may come if a pattern does not fit.
func mayFailBy(no api.Expr) bool {
	if no.Kind == api.ExVar {
		return core.CheckExpr(api.Prog{}, no, []string{no.Name}) == api.OK
	}
	return core.Same(no, Failure())
}

// found is what a list of constructors has of a name.
type found struct {
	con   api.Con
	there bool
}

// checker tells what is wrong with patterns. What it has found of a name it keeps: to find one goes over the whole list.
type checker struct {
	cons  []api.Con
	known map[string]found
}

func newChecker(cons []api.Con) *checker {
	return &checker{cons: cons, known: map[string]found{}}
}

func (c *checker) find(name string) found {
	f, asked := c.known[name]
	if !asked {
		f.con, f.there = shape.Find(c.cons, name)
		c.known[name] = f
	}
	return f
}

// rows tells what is wrong with rows of so many patterns each.
func (c *checker) rows(l []api.Row, width int) api.Errno {
	if len(l) > mostRows || slices.ContainsFunc(l, func(r api.Row) bool { return len(r.Pats) != width }) {
		return api.ErrArg
	}
	for i := range l {
		if e := c.row(&l[i]); e != api.OK {
			return e
		}
	}
	return api.OK
}

func (c *checker) row(r *api.Row) api.Errno {
	pats, what := r.Pats, lookAt(&r.E)
	if len(pats) == 0 {
		pats = []api.Node{{Kind: api.NdPAny}}
	}
	for i := range pats {
		if e := syntax.Check(pats[i]); e != api.OK {
			return e
		}
		if e := c.pattern(&pats[i], what); e != api.OK {
			return e
		}
	}
	if !areDistinct(scope.Names(pats)) {
		return api.ErrScope
	}
	return api.OK
}

// pattern tells what is wrong with a node that may be, and with what comes behind it.
func (c *checker) pattern(p *api.Node, what coming) api.Errno {
	if !isPattern(p) || !what.asTold {
		return api.ErrArg
	}
	if !areDistinct(scope.Names([]api.Node{*p})) || !allConstructors(p, c.isThere) {
		return api.ErrScope
	}
	if !allConstructors(p, c.isShaped) {
		return api.ErrShape
	}
	if !what.fits {
		return api.ErrLong
	}
	return api.OK
}

// isPattern tells whether a node that may be is a pattern whose operators are in order.
func isPattern(p *api.Node) bool {
	if p.Kind < api.NdPVar || p.Kind >= api.NdPOps {
		return false
	}
	for k := range kids(p) {
		if !isPattern(k) {
			return false
		}
	}
	return true
}

// allConstructors tells whether ok holds of all that have constructors of their own, a pattern and those in it.
func allConstructors(p *api.Node, ok func(p *api.Node) bool) bool {
	if (p.Kind == api.NdPCon || p.Kind == api.NdPTuple) && !ok(p) {
		return false
	}
	for k := range kids(p) {
		if !allConstructors(k, ok) {
			return false
		}
	}
	return true
}

func (c *checker) isThere(p *api.Node) bool {
	return c.find(constructorOf(p)).there
}

func (c *checker) isShaped(p *api.Node) bool {
	return c.find(constructorOf(p)).con.Arity == len(p.Kids)
}

// rowsHaveOneOf tells whether a pattern of a row has one of some names.
func rowsHaveOneOf(l []api.Row, names map[string]struct{}) bool {
	for i := range l {
		for j := range l[i].Pats {
			if hasOneOf(&l[i].Pats[j], names) {
				return true
			}
		}
	}
	return false
}

// hasOneOf tells whether a pattern, which may be any node, has one of some names.
func hasOneOf(p *api.Node, names map[string]struct{}) bool {
	for n := range once(p, kids) {
		if _, there := names[n.Name]; there && hasName(n) {
			return true
		}
	}
	return false
}

func setOf(l []string) map[string]struct{} {
	set := make(map[string]struct{}, len(l))
	for _, name := range l {
		set[name] = struct{}{}
	}
	return set
}

func areDistinct(l []string) bool {
	return len(setOf(l)) == len(l)
}
