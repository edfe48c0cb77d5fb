package syntax

import (
	"math"

	"thunkmill/api"
)

// pattern tells how many kids it takes from the front of a list, -1 if it does not fit there.
type pattern func(kids []api.Node) int

// class tells whether a node of this kind is one of those that are asked for.
type class func(kind int) bool

// fits tells whether patterns, one behind the other, take all of a list of kids.
func fits(l []pattern, kids []api.Node) bool {
	for _, p := range l {
		n := p(kids)
		if n < 0 {
			return false
		}
		kids = kids[n:]
	}
	return len(kids) == 0
}

// kidPatterns has of each kind what its kids must fit.
func kidPatterns() map[int][]pattern {
	where, rhs, op := only(api.NdWhere), only(api.NdRhs), only(api.NdOp)
	return map[int][]pattern{
		api.NdProgram: {many(isDeclaration)},
		api.NdData:    {some(only(api.NdConDef))},
		api.NdConDef:  {},
		api.NdFixity:  {some(op)},
		api.NdOp:      {},
		api.NdEqn:     {some(isPattern), one(rhs)},
		api.NdBind:    {one(isPattern), one(rhs)},
		api.NdRhs:     {either(some(only(api.NdGuard)), one(isExpression)), atMostOne(where)},
		api.NdGuard:   {one(isExpression), one(isExpression)},
		api.NdWhere:   {many(isDeclaration)},

		api.NdVar:    {},
		api.NdCon:    {},
		api.NdInt:    {},
		api.NdChar:   {},
		api.NdString: {},
		api.NdApp:    {one(isExpression), some(isExpression)},
		api.NdOps:    {one(isExpression), turns(op, isExpression)},
		api.NdNeg:    {one(isExpression)},
		api.NdLam:    {some(isPattern), one(isExpression)},
		api.NdLet:    {one(where), one(isExpression)},
		api.NdIf:     {one(isExpression), one(isExpression), one(isExpression)},
		api.NdCase:   {one(isExpression), some(only(api.NdAlt))},
		api.NdAlt:    {one(isPattern), one(rhs)},
		api.NdDo:     {allButOne(isStatement), one(only(api.NdStmt))},
		api.NdTuple:  {between(2, 4, isExpression)},
		api.NdList:   {many(isExpression)},
		api.NdComp:   {one(isExpression), some(isStatement)},
		api.NdLeft:   {one(isExpression)},
		api.NdRight:  {one(isExpression)},
		api.NdParen:  {one(isExpression)},

		api.NdGen:  {one(isPattern), one(isExpression)},
		api.NdLets: {one(where)},
		api.NdStmt: {one(isExpression)},

		api.NdPVar:    {},
		api.NdPAny:    {},
		api.NdPInt:    {},
		api.NdPChar:   {},
		api.NdPString: {},
		api.NdPCon:    {many(isPattern)},
		api.NdPTuple:  {between(2, 4, isPattern)},
		api.NdPList:   {many(isPattern)},
		api.NdPAs:     {one(isPattern)},
		api.NdPLazy:   {one(isPattern)},
		api.NdPOps:    {one(isPattern), turns(op, isPattern)},
	}
}

func isDeclaration(kind int) bool {
	switch kind {
	case api.NdData, api.NdFixity, api.NdEqn, api.NdBind:
		return true
	}
	return false
}

func isExpression(kind int) bool {
	return api.NdVar <= kind && kind <= api.NdParen && kind != api.NdAlt
}

func isStatement(kind int) bool {
	return api.NdGen <= kind && kind <= api.NdStmt
}

func isPattern(kind int) bool {
	return api.NdPVar <= kind && kind <= api.NdPOps
}

func only(wanted int) class {
	return func(kind int) bool { return kind == wanted }
}

// ahead tells how many kids at the front are of a class.
func ahead(kids []api.Node, c class) int {
	for i := range kids {
		if !c(kids[i].Kind) {
			return i
		}
	}
	return len(kids)
}

// one takes one, and leaves those that are like it for the next pattern.
func one(c class) pattern {
	return func(kids []api.Node) int {
		if len(kids) == 0 || !c(kids[0].Kind) {
			return -1
		}
		return 1
	}
}

func atMostOne(c class) pattern {
	it := one(c)
	return func(kids []api.Node) int { return max(it(kids), 0) }
}

// between takes as many as there are, if these are no fewer and no more than told.
func between(least, most int, c class) pattern {
	return func(kids []api.Node) int {
		n := ahead(kids, c)
		if n < least || n > most {
			return -1
		}
		return n
	}
}

func many(c class) pattern { return between(0, math.MaxInt, c) }

func some(c class) pattern { return between(1, math.MaxInt, c) }

// allButOne takes all but the last one.
func allButOne(c class) pattern {
	return func(kids []api.Node) int {
		n := max(len(kids)-1, 0)
		if ahead(kids[:n], c) < n {
			return -1
		}
		return n
	}
}

// turns takes one of a and one of b by turns, both as often.
func turns(a, b class) pattern {
	pair := []pattern{one(a), one(b)}
	return func(kids []api.Node) int {
		n := 0
		for n+2 <= len(kids) && fits(pair, kids[n:n+2]) {
			n += 2
		}
		if n == 0 {
			return -1
		}
		return n
	}
}

// either takes what the first one that fits takes.
func either(a, b pattern) pattern {
	return func(kids []api.Node) int {
		if n := a(kids); n >= 0 {
			return n
		}
		return b(kids)
	}
}
