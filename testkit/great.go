package testkit

import (
	"maps"
	"slices"
	"strconv"

	"thunkmill/api"
	"thunkmill/core"
)

func number(n int64) api.Expr { return api.Expr{Kind: api.ExInt, Num: n} }

// Nested is an expression in so many lambdas less one: if it has no parts, it is nested so deep then.
func Nested(deep int, e api.Expr) api.Expr {
	for range deep - 1 {
		e = api.Expr{Kind: api.ExLam, Params: []string{"x"}, Args: []api.Expr{e}}
	}
	return e
}

// Tree has n expressions, itself counted, and is nested no deeper than it must be. Equal parts are one in memory.
func Tree(n int) api.Expr { return grown{}.of(n) }

// grown are trees that were made, by how many expressions they have.
type grown map[int]api.Expr

func (g grown) of(n int) api.Expr {
	switch n {
	case 1:
		return number(1)
	case 2:
		return Core("(#ord 1)")
	}
	if e, there := g[n]; there {
		return e
	}
	e := api.Expr{Kind: api.ExApp}
	for _, size := range shares(n-1, min(33, n-1)) {
		e.Args = append(e.Args, g.of(size))
	}
	g[n] = e
	return e
}

// shares are a number as a sum of so many that differ by one at most.
func shares(n, parts int) []int {
	var l []int
	for ; parts > 0; parts-- {
		l = append(l, n/parts)
		n -= n / parts
	}
	return l
}

// ManyAlts is a case with n expressions, itself counted, nearly all of them in its alternatives.
func ManyAlts(n int) api.Expr {
	e, g := api.Expr{Kind: api.ExCase, Args: []api.Expr{number(1)}}, grown{}
	for i, size := range shares(n-2, min(n-2, 1000)) {
		e.Alts = append(e.Alts, api.Alt{Kind: api.AltInt, Num: int64(i), E: g.of(size)})
	}
	return e
}

// ManyBinds is a let with n expressions, itself counted, nearly all of them in its bindings.
func ManyBinds(n int) api.Expr {
	e, g := api.Expr{Kind: api.ExLet, Args: []api.Expr{number(1)}}, grown{}
	for i, size := range shares(n-2, min(n-2, 1000)) {
		e.Binds = append(e.Binds, api.Bind{Name: "n" + strconv.Itoa(i), E: g.of(size)})
	}
	return e
}

// Wide is a choice of many expressions.
func Wide(l []api.Expr) api.Expr {
	e := api.Expr{Kind: api.ExCase, Args: []api.Expr{number(1)}}
	for i := range l {
		e.Alts = append(e.Alts, api.Alt{Kind: api.AltInt, Num: int64(i), E: l[i]})
	}
	return e
}

// Flat is an expression in normal form of so many, from 3 on. Equal parts are one in memory.
func Flat(n int) api.Expr {
	var parts []api.Expr
	atoms := slices.Repeat([]api.Expr{number(2)}, 33)
	for left := n - 2; left > 0; {
		size := min(left, 34)
		part := number(3)
		switch {
		case size == 2:
			part = Core("(#ord 1)")
		case size > 2:
			part = api.Expr{Kind: api.ExApp, Args: atoms[:size-1]}
		}
		parts = append(parts, part)
		left -= size
	}
	return Wide(parts)
}

// Together are expressions as a program's bindings, the last one as main.
func Together(l ...api.Expr) api.Prog {
	p := api.Prog{Cons: Cons()}
	for i, e := range l {
		p.Binds = append(p.Binds, api.Bind{Name: "b" + strconv.Itoa(i), E: e})
	}
	p.Binds[len(l)-1].Name = "main"
	return p
}

// Many is what f makes of each number below n.
func Many[T any](n int, f func(i int) T) []T {
	var l []T
	for i := range n {
		l = append(l, f(i))
	}
	return l
}

// SizeOf is how many expressions a program has, which may be too many for one.
func SizeOf(p api.Prog) int {
	n := 0
	for _, b := range p.Binds {
		n += core.Size(b.E)
	}
	return n
}

// Cyclic is an expression that is its own part.
func Cyclic() api.Expr {
	l := []api.Expr{number(1), number(2)}
	l[1] = api.Expr{Kind: api.ExApp, Args: l}
	return l[1]
}

// Deep are expressions that are nested so deep, by each list of parts.
func Deep(deep int) map[string]api.Expr {
	one := []api.Expr{number(1)}
	e := Nested(deep-1, number(1))
	return map[string]api.Expr{
		"deep by a lambda": Nested(deep, number(1)),
		"deep by a case":   {Kind: api.ExCase, Args: one, Alts: []api.Alt{{Kind: api.AltElse, E: e}}},
		"deep by a let":    {Kind: api.ExLet, Binds: []api.Bind{{Name: "a", E: e}}, Args: one},
	}
}

// Great are expressions of n expressions, by each list of parts.
func Great(n int) map[string]api.Expr {
	return map[string]api.Expr{"many parts": Tree(n), "many alternatives": ManyAlts(n), "many bindings": ManyBinds(n)}
}

// TooGreat are expressions that are just too great, or just nested too deep.
func TooGreat() map[string]api.Expr {
	l := union(Great(api.MaxNodes+1), Deep(api.MaxNest+1))
	l["deep by a kind that is none"] = api.Expr{Args: []api.Expr{Nested(api.MaxNest, number(1))}}
	l["its own part"] = Cyclic()
	return l
}

// Greatest are expressions that are just not too great, or just not nested too deep.
func Greatest() map[string]api.Expr {
	return union(Great(api.MaxNodes), Deep(api.MaxNest))
}

// union is two maps in one.
func union(a, b map[string]api.Expr) map[string]api.Expr {
	l := maps.Clone(a)
	maps.Copy(l, b)
	return l
}
