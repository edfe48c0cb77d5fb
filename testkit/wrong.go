package testkit

import (
	"slices"
	"strconv"

	"thunkmill/api"
)

// WrongExpr is an expression that core refuses, and by which error.
type WrongExpr struct {
	E   api.Expr
	Err api.Errno
}

func partly(kind int, args ...api.Expr) api.Expr { return api.Expr{Kind: kind, Args: args} }

// WrongExprs are some, by themselves, where the constructors are Cons.
func WrongExprs() map[string]WrongExpr {
	one := number(1)
	twice := Core("(case 1 of 1 -> 2)")
	twice.Alts = append(twice.Alts, twice.Alts[0])
	return map[string]WrongExpr{
		"no kind":                     {api.Expr{}, api.ErrArg},
		"a kind that is none":         {partly(10, one), api.ErrArg},
		"a kind below":                {partly(-1, one), api.ErrArg},
		"an empty name":               {api.Expr{Kind: api.ExVar}, api.ErrArg},
		"a number with a name":        {api.Expr{Kind: api.ExInt, Name: "x"}, api.ErrArg},
		"a character above":           {api.Expr{Kind: api.ExChar, Num: 256}, api.ErrArg},
		"a character below":           {api.Expr{Kind: api.ExChar, Num: -1}, api.ErrArg},
		"a function alone":            {partly(api.ExApp, one), api.ErrArg},
		"a lambda without a name":     {partly(api.ExLam, one), api.ErrArg},
		"a lambda without a body":     {api.Expr{Kind: api.ExLam, Params: []string{"x"}}, api.ErrArg},
		"a lambda's name twice":       {Core("(\\ x x -> x)"), api.ErrArg},
		"a let without bindings":      {partly(api.ExLet, one), api.ErrArg},
		"a let's name twice":          {Core("(let x = 1; x = 1 in x)"), api.ErrArg},
		"a case without alternatives": {partly(api.ExCase, one), api.ErrArg},
		"an alternative twice":        {twice, api.ErrArg},
		"an alternative's name twice": {Core("(case 1 of Cons x x -> 1)"), api.ErrArg},
		"alternatives of two kinds":   {Core("(case 1 of 1 -> 2; '1' -> 3)"), api.ErrArg},
		"constructors of two types":   {Core("(case 1 of Nil -> 2; Unit -> 3)"), api.ErrArg},
		"too many parameters":         {api.Expr{Kind: api.ExLam, Params: make([]string, 33), Args: []api.Expr{one}}, api.ErrArg},
		"a part too few":              {Core("(Cons 1)"), api.ErrShape},
		"a part too many":             {Core("(Nil 1)"), api.ErrShape},
		"no such constructor":         {Core("(Nowhere)"), api.ErrShape},
		"an argument too few":         {Core("(#add 1)"), api.ErrShape},
		"an argument too many":        {Core("(#ret 1 2)"), api.ErrShape},
		"no such primitive":           {Core("(#neg 1)"), api.ErrShape},
		"a pattern's name too few":    {Core("(case 1 of Cons x -> 1)"), api.ErrShape},
		"a name in no scope":          {Core("nowhere"), api.ErrScope},
		"out of its scope":            {Core("((\\ x -> 1) x)"), api.ErrScope},
		"nested too deep":             {Nested(api.MaxNest+1, one), api.ErrLong},
		"its own part":                {Cyclic(), api.ErrLong},
	}
}

// WrongProg is a program that core refuses, and by which error.
type WrongProg struct {
	P   api.Prog
	Err api.Errno
}

// WrongProgs are some, each of WrongExprs among them, as one of the bindings and within one.
func WrongProgs() map[string]WrongProg {
	all := map[string]WrongProg{}
	for what, x := range WrongExprs() {
		for _, name := range []string{"main", "unused"} {
			all[what+" as "+name] = WrongProg{wrongly(name, x.E), x.Err}
			all[what+" within "+name] = WrongProg{wrongly(name, partly(api.ExApp, number(1), x.E)), x.Err}
		}
	}
	for what, x := range wrongLists() {
		all[what] = x
	}
	for what, x := range wrongTwice() {
		all[what] = x
	}
	return all
}

// wrongly is a program one of whose bindings is something else.
func wrongly(name string, e api.Expr) api.Prog {
	p := Prog("main = (#ret 1)", "unused = 1")
	for i := range p.Binds {
		if p.Binds[i].Name == name {
			p.Binds[i].E = e
		}
	}
	return p
}

// wrongLists are programs whose bindings are wrong together, or their constructors.
func wrongLists() map[string]WrongProg {
	one := Core("(#ret 1)")
	binds := func(names ...string) []api.Bind {
		var l []api.Bind
		for _, name := range names {
			l = append(l, api.Bind{Name: name, E: one})
		}
		return l
	}
	most := binds("a", "main")
	for i, e := range []api.Expr{Tree(api.MaxNodes / 2), Tree(api.MaxNodes/2 + 1)} {
		most[i].E = e
	}
	return map[string]WrongProg{
		"nothing":               {api.Prog{}, api.ErrArg},
		"no bindings":           {api.Prog{Cons: Cons()}, api.ErrMain},
		"no main":               {api.Prog{Cons: Cons(), Binds: binds("a", "mai", "main1")}, api.ErrMain},
		"no constructors":       {api.Prog{Binds: binds("main")}, api.ErrArg},
		"one of them not there": {api.Prog{Cons: Cons()[:8], Binds: binds("main")}, api.ErrArg},
		"one twice":             {api.Prog{Cons: append(Cons(), Cons()[8]), Binds: binds("main")}, api.ErrArg},
		"main twice":            {api.Prog{Cons: Cons(), Binds: binds("main", "main")}, api.ErrArg},
		"names that fall":       {api.Prog{Cons: Cons(), Binds: binds("main", "a")}, api.ErrArg},
		"too great together":    {api.Prog{Cons: Cons(), Binds: most}, api.ErrLong},
	}
}

// wrongTwice are programs with two errors, of which the first one by chapter 7's order counts.
func wrongTwice() map[string]WrongProg {
	order := []api.Errno{api.ErrLong, api.ErrArg, api.ErrShape, api.ErrScope, api.ErrMain}
	by := []api.Expr{Cyclic(), {}, Core("(Nil 1)"), Core("nowhere"), number(1)}
	all := map[string]WrongProg{}
	for i, first := range order {
		for j, second := range order {
			p := Prog("a = 1", "b = 1")
			p.Binds[0].E, p.Binds[1].E = by[i], by[j]
			at := slices.Min([]int{i, j, 4}) // it has no main
			all["errors "+strconv.Itoa(int(first))+" and "+strconv.Itoa(int(second))] = WrongProg{p, order[at]}
		}
	}
	return all
}
