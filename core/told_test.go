package core_test

import (
	"fmt"
	"math/rand"
	"slices"
	"strings"

	"thunkmill/api"
	"thunkmill/testkit"
)

// read is the expression of a text as the chapter tells it.
func read(text string) api.Expr { return testkit.MustCore(text) }

func con(name string, arity int, of string, tag int) api.Con {
	return api.Con{Name: name, Arity: arity, Type: of, Tag: tag}
}

// builtin are the constructors that the chapter names, by Type and Tag.
func builtin() []api.Con {
	return []api.Con{con("False", 0, "Bool", 0), con("True", 0, "Bool", 1), con("Nil", 0, "List", 0), con("Cons", 2, "List", 1), con("Unit", 0, "Unit", 0)}
}

// cons are the built-in constructors and some others, as they may be.
func cons() []api.Con {
	return slices.Concat([]api.Con{con("Zed", 1, "A", 0), con("B", 0, "A", 1), con("C", 3, "A", 2)}, builtin()[:2], []api.Con{con("K", 2, "Boolean", 0)}, builtin()[2:], []api.Con{con("V", 1, "a", 0)})
}

// prog is a program of lines name = expression.
func prog(lines ...string) api.Prog {
	p := api.Prog{Cons: cons()}
	for _, line := range lines {
		name, text, _ := strings.Cut(line, " = ")
		p.Binds = append(p.Binds, api.Bind{Name: name, E: read(text)})
	}
	return p
}

// mainIs is a program of main alone.
func mainIs(e api.Expr) api.Prog {
	return api.Prog{Cons: cons(), Binds: []api.Bind{{Name: "main", E: e}}}
}

// prims are the primitives that the chapter names.
func prims() []testkit.Prim {
	told := "add 2, sub 2, mul 2, quot 2, rem 2, eq 2, ne 2, lt 2, le 2, gt 2, ge 2, ceq 2, clt 2, ord 1, chr 1, seq 2, error 1, show 1, ret 1, bind 2, getc 0, putc 1, eof 0, exit 1"
	var l []testkit.Prim
	for _, s := range strings.Split(told, ", ") {
		var p testkit.Prim
		fmt.Sscan(s, &p.Name, &p.Arity)
		l = append(l, p)
	}
	return l
}

// byChance makes expressions of few names.
func byChance(seed int64) testkit.Exprs {
	return testkit.Exprs{Chance: rand.New(rand.NewSource(seed)), Names: []string{"x", "y", "z", "v1"}, Cons: cons(), Prims: prims()}
}

func variable(name string) api.Expr { return api.Expr{Kind: api.ExVar, Name: name} }

func number(n int64) api.Expr { return api.Expr{Kind: api.ExInt, Num: n} }

func many(n int, e api.Expr) []api.Expr { return slices.Repeat([]api.Expr{e}, n) }

// named are n names, each another one.
func named(n int) []string {
	var l []string
	for i := range n {
		l = append(l, fmt.Sprintf("n%d", i))
	}
	return l
}
