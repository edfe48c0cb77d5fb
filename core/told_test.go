package core_test

import (
	"fmt"
	"math/rand"
	"slices"
	"strings"

	"thunkmill/api"
	"thunkmill/testkit"
)

// read is the expression of a text as the chapter tells it.
func read(text string) api.Expr {
	e := testkit.Core(text)
	if e.Kind == 0 {
		panic("no expression: " + text)
	}
	return e
}

func con(name string, arity int, of string, tag int) api.Con {
	return api.Con{Name: name, Arity: arity, Type: of, Tag: tag}
}

// builtin are the constructors that the chapter names, by Type and Tag.
func builtin() []api.Con {
	return []api.Con{con("False", 0, "Bool", 0), con("True", 0, "Bool", 1), con("Nil", 0, "List", 0), con("Cons", 2, "List", 1), con("Unit", 0, "Unit", 0)}
}

// cons are the built-in constructors and some others, as they may be.
func cons() []api.Con {
	return slices.Concat([]api.Con{con("Zed", 1, "A", 0), con("B", 0, "A", 1), con("C", 3, "A", 2)}, builtin()[:2], []api.Con{con("K", 2, "Boolean", 0)}, builtin()[2:], []api.Con{con("V", 1, "a", 0)})
}

// prog is a program of lines name = expression.
func prog(lines ...string) api.Prog {
	p := api.Prog{Cons: cons()}
	for _, line := range lines {
		name, text, _ := strings.Cut(line, " = ")
		p.Binds = append(p.Binds, api.Bind{Name: name, E: read(text)})
	}
	return p
}

// mainIs is a program of main alone.
func mainIs(e api.Expr) api.Prog {
	return api.Prog{Cons: cons(), Binds: []api.Bind{{Name: "main", E: e}}}
}

// prims are the primitives that the chapter names.
func prims() []testkit.Prim {
	told := "add 2, sub 2, mul 2, quot 2, rem 2, eq 2, ne 2, lt 2, le 2, gt 2, ge 2, ceq 2, clt 2, ord 1, chr 1, seq 2, error 1, show 1, ret 1, bind 2, getc 0, putc 1, eof 0, exit 1"
	var l []testkit.Prim
	for _, s := range strings.Split(told, ", ") {
		var p testkit.Prim
		fmt.Sscan(s, &p.Name, &p.Arity)
		l = append(l, p)
	}
	return l
}

// byChance makes expressions of few names.
func byChance(seed int64) testkit.Exprs {
	return testkit.Exprs{Chance: rand.New(rand.NewSource(seed)), Names: []string{"x", "y", "z", "v1"}, Cons: cons(), Prims: prims()}
}

func variable(name string) api.Expr { return api.Expr{Kind: api.ExVar, Name: name} }

func number(n int64) api.Expr { return api.Expr{Kind: api.ExInt, Num: n} }

func many(n int, e api.Expr) []api.Expr { return slices.Repeat([]api.Expr{e}, n) }

// named are n names, each another one.
func named(n int) []string {
	var l []string
	for i := range n {
		l = append(l, fmt.Sprintf("n%d", i))
	}
	return l
}

// nested is a number in so many lambdas less one: an expression that is nested so deep.
func nested(deep int, e api.Expr) api.Expr {
	for range deep - 1 {
		e = api.Expr{Kind: api.ExLam, Params: []string{"x"}, Args: []api.Expr{e}}
	}
	return e
}

// tree has n expressions, itself counted, and is nested no deeper than it must be. Equal parts are one in memory.
func tree(n int) api.Expr { return treeOf(n, map[int]api.Expr{1: number(1), 2: read("(#ord 1)")}) }

func treeOf(n int, made map[int]api.Expr) api.Expr {
	if e, there := made[n]; there {
		return e
	}
	e := api.Expr{Kind: api.ExApp}
	for _, size := range parted(n-1, min(33, n-1)) {
		e.Args = append(e.Args, treeOf(size, made))
	}
	made[n] = e
	return e
}

// parted is a number as a sum of so many that differ by one at most.
func parted(n, parts int) []int {
	var l []int
	for ; parts > 0; parts-- {
		l = append(l, n/parts)
		n -= n / parts
	}
	return l
}

// manyAlts is a case with n expressions, itself counted, nearly all of them in its alternatives.
func manyAlts(n int) api.Expr {
	e, made := api.Expr{Kind: api.ExCase, Args: many(1, number(1))}, map[int]api.Expr{1: number(1), 2: read("(#ord 1)")}
	for i, size := range parted(n-2, min(n-2, 1000)) {
		e.Alts = append(e.Alts, api.Alt{Kind: api.AltInt, Num: int64(i), E: treeOf(size, made)})
	}
	return e
}

// manyBinds is a let with n expressions, itself counted, nearly all of them in its bindings.
func manyBinds(n int) api.Expr {
	e, made := api.Expr{Kind: api.ExLet, Args: many(1, number(1))}, map[int]api.Expr{1: number(1), 2: read("(#ord 1)")}
	for i, size := range parted(n-2, min(n-2, 1000)) {
		e.Binds = append(e.Binds, api.Bind{Name: fmt.Sprintf("n%d", i), E: treeOf(size, made)})
	}
	return e
}

// cyclic is an expression that is its own part.
func cyclic() api.Expr {
	l := []api.Expr{number(1), number(2)}
	l[1] = api.Expr{Kind: api.ExApp, Args: l}
	return l[1]
}

// tooGreat are expressions that are just too great, or just nested too deep, by each list of parts.
func tooGreat() map[string]api.Expr {
	in := func(e api.Expr) []api.Expr { return []api.Expr{e} }
	deep := nested(api.MaxNest, number(1))
	return map[string]api.Expr{
		"many parts":                  tree(api.MaxNodes + 1),
		"many alternatives":           manyAlts(api.MaxNodes + 1),
		"many bindings":               manyBinds(api.MaxNodes + 1),
		"deep by a lambda":            nested(api.MaxNest+1, number(1)),
		"deep by a case":              {Kind: api.ExCase, Args: in(number(1)), Alts: []api.Alt{{Kind: api.AltElse, E: deep}}},
		"deep by a let":               {Kind: api.ExLet, Binds: []api.Bind{{Name: "a", E: deep}}, Args: in(number(1))},
		"deep by a kind that is none": {Args: in(deep)},
		"its own part":                cyclic(),
	}
}

// greatest are expressions that are just not too great, or just not nested too deep.
func greatest() map[string]api.Expr {
	in := func(e api.Expr) []api.Expr { return []api.Expr{e} }
	deep := nested(api.MaxNest-1, number(1))
	return map[string]api.Expr{
		"many parts":        tree(api.MaxNodes),
		"many alternatives": manyAlts(api.MaxNodes),
		"many bindings":     manyBinds(api.MaxNodes),
		"deep by a lambda":  nested(api.MaxNest, number(1)),
		"deep by a case":    {Kind: api.ExCase, Args: in(number(1)), Alts: []api.Alt{{Kind: api.AltElse, E: deep}}},
		"deep by a let":     {Kind: api.ExLet, Binds: []api.Bind{{Name: "a", E: deep}}, Args: in(number(1))},
	}
}
