package testkit

import (
	"maps"
	"strconv"

	"thunkmill/api"
)

func number(n int64) api.Expr { return api.Expr{Kind: api.ExInt, Num: n} }

// Nested is an expression in so many lambdas less one: if it has no parts, it is nested so deep then.
func Nested(deep int, e api.Expr) api.Expr {
	for range deep - 1 {
		e = api.Expr{Kind: api.ExLam, Params: []string{"x"}, Args: []api.Expr{e}}
	}
	return e
}

// Tree has n expressions, itself counted, and is nested no deeper than it must be. Equal parts are one in memory.
func Tree(n int) api.Expr { return grown{}.of(n) }

// grown are trees that were made, by how many expressions they have.
type grown map[int]api.Expr

func (g grown) of(n int) api.Expr {
	switch n {
	case 1:
		return number(1)
	case 2:
		return Core("(#ord 1)")
	}
	if e, there := g[n]; there {
		return e
	}
	e := api.Expr{Kind: api.ExApp}
	for _, size := range shares(n-1, min(33, n-1)) {
		e.Args = append(e.Args, g.of(size))
	}
	g[n] = e
	return e
}

// shares are a number as a sum of so many that differ by one at most.
func shares(n, parts int) []int {
	var l []int
	for ; parts > 0; parts-- {
		l = append(l, n/parts)
		n -= n / parts
	}
	return l
}

// ManyAlts is a case with n expressions, itself counted, nearly all of them in its alternatives.
func ManyAlts(n int) api.Expr {
	e, g := api.Expr{Kind: api.ExCase, Args: []api.Expr{number(1)}}, grown{}
	for i, size := range shares(n-2, min(n-2, 1000)) {
		e.Alts = append(e.Alts, api.Alt{Kind: api.AltInt, Num: int64(i), E: g.of(size)})
	}
	return e
}

// ManyBinds is a let with n expressions, itself counted, nearly all of them in its bindings.
func ManyBinds(n int) api.Expr {
	e, g := api.Expr{Kind: api.ExLet, Args: []api.Expr{number(1)}}, grown{}
	for i, size := range shares(n-2, min(n-2, 1000)) {
		e.Binds = append(e.Binds, api.Bind{Name: "n" + strconv.Itoa(i), E: g.of(size)})
	}
	return e
}

// Cyclic is an expression that is its own part.
func Cyclic() api.Expr {
	l := []api.Expr{number(1), number(2)}
	l[1] = api.Expr{Kind: api.ExApp, Args: l}
	return l[1]
}

// Deep are expressions that are nested so deep, by each list of parts.
func Deep(deep int) map[string]api.Expr {
	one := []api.Expr{number(1)}
	e := Nested(deep-1, number(1))
	return map[string]api.Expr{
		"deep by a lambda": Nested(deep, number(1)),
		"deep by a case":   {Kind: api.ExCase, Args: one, Alts: []api.Alt{{Kind: api.AltElse, E: e}}},
		"deep by a let":    {Kind: api.ExLet, Binds: []api.Bind{{Name: "a", E: e}}, Args: one},
	}
}

// Great are expressions of n expressions, by each list of parts.
func Great(n int) map[string]api.Expr {
	return map[string]api.Expr{"many parts": Tree(n), "many alternatives": ManyAlts(n), "many bindings": ManyBinds(n)}
}

// TooGreat are expressions that are just too great, or just nested too deep.
func TooGreat() map[string]api.Expr {
	l := union(Great(api.MaxNodes+1), Deep(api.MaxNest+1))
	l["deep by a kind that is none"] = api.Expr{Args: []api.Expr{Nested(api.MaxNest, number(1))}}
	l["its own part"] = Cyclic()
	return l
}

// Greatest are expressions that are just not too great, or just not nested too deep.
func Greatest() map[string]api.Expr {
	return union(Great(api.MaxNodes), Deep(api.MaxNest))
}

// union is two maps in one.
func union(a, b map[string]api.Expr) map[string]api.Expr {
	l := maps.Clone(a)
	maps.Copy(l, b)
	return l
}
