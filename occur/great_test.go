package occur_test

import (
	"fmt"
	"slices"
	"strings"
	"testing"
	"time"

	"thunkmill/api"
	"thunkmill/core"
	"thunkmill/testkit"
)

// great is an expression, and what is to be told of it.
type great struct {
	e     api.Expr
	of    string // x
	count int
	all   string // how many binders have each occurrence
}

// leaves are variables, one behind the other, and from the first on again.
type leaves struct {
	names []string
	told  int
}

func (l *leaves) next() api.Expr {
	name := l.names[l.told%len(l.names)]
	l.told++
	return variable(name)
}

func (l *leaves) several(n int) []api.Expr {
	var all []api.Expr
	for range n {
		all = append(all, l.next())
	}
	return all
}

// wide has n expressions, itself counted, and is nested no deeper than it must be.
func (l *leaves) wide(n int) api.Expr {
	if n == 1 {
		return l.next()
	}
	e := api.Expr{Kind: api.ExApp}
	for parts, left := min(33, n-1), n-1; parts > 0; parts-- {
		e.Args = append(e.Args, l.wide(left/parts))
		left -= left / parts
	}
	return e
}

// layers puts an expression into n others, the last one outside.
func layers(n int, e api.Expr, around func(i int, e api.Expr) api.Expr) api.Expr {
	for i := range n {
		e = around(i, e)
	}
	return e
}

// v is one of many names, each another one.
func v(i int) string { return fmt.Sprint("v", i) }

func manyNames(n int) []string {
	var l []string
	for i := range n {
		l = append(l, v(i))
	}
	return l
}

// full puts an expression beside so many others that there is no room for one more.
func full(e api.Expr) api.Expr {
	return api.Expr{Kind: api.ExApp, Args: list(e, testkit.Tree(api.MaxNodes-1-core.Size(e)))}
}

// greatest have as many expressions as there may be.
func greatest() map[string]func() great {
	return map[string]func() great{
		"one name": func() great {
			l := leaves{names: names("x")}
			return great{l.wide(api.MaxNodes), "many", l.told, ""}
		},
		"all names of lambdas around": func() great {
			const lambdas = 4000
			around := manyNames(32 * lambdas)
			l := leaves{names: append(slices.Clone(around), "x")}
			e := layers(lambdas, l.wide(api.MaxNodes-lambdas), func(i int, e api.Expr) api.Expr {
				return api.Expr{Kind: api.ExLam, Params: around[32*i : 32*i+32], Args: list(e)}
			})
			return great{e, "many", l.told / len(l.names), "many 128000"}
		},
		"all names of alternatives around": func() great {
			const deep = 4000
			l := leaves{names: append(manyNames(deep), "x")}
			e := layers(deep, l.wide(api.MaxNodes-3*deep), func(i int, e api.Expr) api.Expr {
				return api.Expr{Kind: api.ExCase, Args: list(number(1)), Alts: []api.Alt{{Kind: api.AltInt, Num: 1, E: number(2)}, {Kind: api.AltElse, Vars: names(v(i)), E: e}}}
			})
			return great{e, "many", l.told / len(l.names), "many 4000"}
		},
		"a let of many": func() great {
			l := manyNames(api.MaxNodes/2 - 1)
			e := api.Expr{Kind: api.ExLet, Args: list(variable("x"))}
			for i, name := range l {
				e.Binds = append(e.Binds, api.Bind{Name: name, E: api.Expr{Kind: api.ExPrim, Name: "ord", Args: list(variable(l[(i+1)%len(l)]))}})
			}
			return great{e, "once", 1, fmt.Sprint("once ", len(l))}
		},
		"a case of many": func() great {
			e := api.Expr{Kind: api.ExCase, Args: list(number(1))}
			for i := range api.MaxNodes/2 - 1 {
				e.Alts = append(e.Alts, api.Alt{Kind: api.AltInt, Num: int64(i), E: api.Expr{Kind: api.ExPrim, Name: "ord", Args: list(variable("x"))}})
			}
			return great{e, "branch", len(e.Alts), ""}
		},
		"one name bound again and again": func() great {
			const often = 100000
			e := api.Expr{Kind: api.ExApp, Args: slices.Repeat(list(read("(\\ x -> (x x))")), often)}
			e.Args = append(e.Args, variable("x"))
			return great{full(e), "once", 1, fmt.Sprint("many ", often)}
		},
	}
}

// deepest are nested as deep as there may be, with a binder at each depth.
func deepest() map[string]func() great {
	const deep = api.MaxNest - 1 // around a variable
	x := variable("x")
	return map[string]func() great{
		"lambdas": func() great {
			l := leaves{names: append(manyNames(deep-1), "x")}
			e := layers(deep-1, api.Expr{Kind: api.ExApp, Args: l.several(deep)}, func(i int, e api.Expr) api.Expr {
				return api.Expr{Kind: api.ExLam, Params: names(v(i)), Args: list(e)}
			})
			return great{e, "lam", 1, fmt.Sprint("once 1, lam ", deep-2)}
		},
		"alternatives": func() great {
			e := layers(deep, x, func(i int, e api.Expr) api.Expr {
				return api.Expr{Kind: api.ExCase, Args: list(variable(v(i + 1))), Alts: []api.Alt{{Kind: api.AltInt, Num: 1, E: x}, {Kind: api.AltElse, Vars: names(v(i)), E: e}}}
			})
			return great{e, "branch", deep + 1, fmt.Sprint("dead 1, once ", deep-1)}
		},
		"cases' own expressions": func() great {
			e := layers(deep, x, func(i int, e api.Expr) api.Expr {
				return api.Expr{Kind: api.ExCase, Args: list(e), Alts: []api.Alt{{Kind: api.AltElse, Vars: names(v(i)), E: variable(v(i))}}}
			})
			return great{e, "once", 1, fmt.Sprint("once ", deep)}
		},
		"lets' bodies": func() great {
			e := layers(deep, x, func(i int, e api.Expr) api.Expr {
				return api.Expr{Kind: api.ExLet, Binds: []api.Bind{{Name: v(i), E: variable(v(i))}}, Args: list(e)}
			})
			return great{e, "once", 1, fmt.Sprint("once ", deep)}
		},
		"lets' bindings of one name": func() great {
			e := layers(deep, x, func(i int, e api.Expr) api.Expr {
				return api.Expr{Kind: api.ExLet, Binds: []api.Bind{{Name: "x", E: e}}, Args: list(x)}
			})
			return great{e, "dead", 0, fmt.Sprintf("once %d, many 1", deep-1)}
		},
	}
}

// tallied are how many binders have each occurrence.
func tallied(l []api.Occ) string {
	var told []string
	for occ := api.OccDead; occ <= api.OccMany; occ++ {
		n := 0
		for _, o := range l {
			if o.Occ == occ {
				n++
			}
		}
		if n > 0 {
			told = append(told, fmt.Sprint(word(occ), " ", n))
		}
	}
	return strings.Join(told, ", ")
}

// P16.1, T6: expressions as great as they may be, and as deep, are answered in a time that can be waited for, by each call.
func TestGreat(t *testing.T) {
	for _, l := range []map[string]func() great{greatest(), deepest()} {
		for _, what := range sorted(l) {
			g := l[what]()
			if core.Size(g.e) == 0 || core.Size(api.Expr{Kind: api.ExPrim, Name: "ord", Args: list(g.e)}) != 0 {
				t.Fatalf("%s: it is not just as great as it may be: %d", what, core.Size(g.e))
			}
			began := time.Now()
			ofIs(t, g.e, "x", g.of)
			countIs(t, g.e, "x", g.count)
			if got := tallied(all(t, g.e)); got != g.all {
				t.Errorf("%s: All: %s, want %s", what, got, g.all)
			}
			if took := time.Since(began); took > time.Minute {
				t.Errorf("%s: it took %v", what, took)
			}
		}
	}
}
