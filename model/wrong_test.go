package model_test

import (
	"math"
	"slices"
	"testing"

	"thunkmill/api"
	"thunkmill/core"
	"thunkmill/model"
)

// refuse is what Run or Eval is to answer: an error, and with it the zero outcome.
func refuse(t *testing.T, what string, o api.Outcome, e, want api.Errno) {
	t.Helper()
	if e != want || told(o) != "none in 0" || o.Out != nil {
		t.Errorf("%s: %s, error %d, want error %d", what, told(o), e, want)
	}
}

func node(kind int, args ...api.Expr) api.Expr { return api.Expr{Kind: kind, Args: args} }

// deep is a number in so many lambdas less one.
func deep(n int) api.Expr {
	e := api.Expr{Kind: api.ExInt}
	for range n - 1 {
		e = api.Expr{Kind: api.ExLam, Params: []string{"x"}, Args: []api.Expr{e}}
	}
	return e
}

// wrongExprs are expressions that core refuses, each with the error.
func wrongExprs() map[string]struct {
	e    api.Expr
	want api.Errno
} {
	one := read("1")
	twice := read("(case 1 of 1 -> 2)")
	twice.Alts = append(twice.Alts, twice.Alts[0])
	l := []api.Expr{one, one}
	l[1] = node(api.ExApp, l...)
	l[1].Args = l
	return map[string]struct {
		e    api.Expr
		want api.Errno
	}{
		"no kind":                     {api.Expr{}, api.ErrArg},
		"a kind that is none":         {node(10, one), api.ErrArg},
		"a kind below":                {node(-1, one), api.ErrArg},
		"an empty name":               {api.Expr{Kind: api.ExVar}, api.ErrArg},
		"a character above":           {api.Expr{Kind: api.ExChar, Num: 256}, api.ErrArg},
		"a character below":           {api.Expr{Kind: api.ExChar, Num: -1}, api.ErrArg},
		"a function alone":            {node(api.ExApp, one), api.ErrArg},
		"a lambda without a name":     {node(api.ExLam, one), api.ErrArg},
		"a lambda without a body":     {api.Expr{Kind: api.ExLam, Params: []string{"x"}}, api.ErrArg},
		"a let without bindings":      {node(api.ExLet, one), api.ErrArg},
		"a case without alternatives": {node(api.ExCase, one), api.ErrArg},
		"an alternative twice":        {twice, api.ErrArg},
		"alternatives of two kinds":   {read("(case 1 of 1 -> 2; '1' -> 3)"), api.ErrArg},
		"constructors of two types":   {read("(case 1 of Nil -> 2; Unit -> 3)"), api.ErrArg},
		"too many parameters":         {api.Expr{Kind: api.ExLam, Params: make([]string, 33), Args: []api.Expr{one}}, api.ErrArg},
		"a part too few":              {read("(Cons 1)"), api.ErrShape},
		"a part too many":             {read("(Nil 1)"), api.ErrShape},
		"no such constructor":         {read("(Nowhere)"), api.ErrShape},
		"an argument too few":         {read("(#add 1)"), api.ErrShape},
		"no such primitive":           {read("(#neg 1)"), api.ErrShape},
		"a pattern's name too few":    {read("(case 1 of Cons x -> 1)"), api.ErrShape},
		"a name in no scope":          {read("nowhere"), api.ErrScope},
		"out of its scope":            {read("((\\ x -> 1) x)"), api.ErrScope},
		"nested too deep":             {deep(api.MaxNest + 1), api.ErrLong},
		"its own part":                {l[1], api.ErrLong},
	}
}

// P15.1: core.Check's error, whatever the fuel and the input are.
func TestProgramsThatMayNotBe(t *testing.T) {
	long := make([]byte, api.MaxInput+1)
	for what, x := range wrongExprs() {
		for _, name := range []string{"main", "unused"} {
			p := prog("a = 1", "main = (#ret (Unit))")
			p.Binds = append(slices.DeleteFunc(p.Binds, func(b api.Bind) bool { return b.Name == name }), api.Bind{Name: name, E: x.e})
			for _, fuel := range []int{0, 100, api.MaxFuel, -1, api.MaxFuel + 1} {
				o, e := model.Run(p, nil, false, fuel)
				refuse(t, what, o, e, x.want)
				o, e = model.Run(p, long, true, fuel)
				refuse(t, what, o, e, x.want)
				o, e = model.Eval(p, read("1"), fuel)
				refuse(t, what, o, e, x.want)
				o, e = model.Eval(p, api.Expr{}, fuel)
				refuse(t, what, o, e, x.want)
			}
		}
	}
}

// P15.1: programs whose bindings or constructors may not be.
func TestBindingsThatMayNotBe(t *testing.T) {
	one := read("(#ret 1)")
	binds := func(names ...string) []api.Bind {
		var l []api.Bind
		for _, name := range names {
			l = append(l, api.Bind{Name: name, E: one})
		}
		return l
	}
	for what, x := range map[string]struct {
		p    api.Prog
		want api.Errno
	}{
		"nothing":               {api.Prog{}, api.ErrArg},
		"no bindings":           {api.Prog{Cons: cons()}, api.ErrMain},
		"no main":               {api.Prog{Cons: cons(), Binds: binds("a", "mai", "main1")}, api.ErrMain},
		"no constructors":       {api.Prog{Binds: binds("main")}, api.ErrArg},
		"one of them not there": {api.Prog{Cons: cons()[:8], Binds: binds("main")}, api.ErrArg},
		"one twice":             {api.Prog{Cons: append(cons(), cons()[8]), Binds: binds("main")}, api.ErrArg},
		"main twice":            {api.Prog{Cons: cons(), Binds: binds("main", "main")}, api.ErrArg},
		"names that fall":       {api.Prog{Cons: cons(), Binds: binds("main", "a")}, api.ErrArg},
	} {
		for _, fuel := range []int{0, 9, -1} {
			o, e := model.Run(x.p, nil, false, fuel)
			refuse(t, what, o, e, x.want)
			o, e = model.Eval(x.p, read("nowhere"), fuel)
			refuse(t, what, o, e, x.want)
		}
	}
}

// P15.2: core.CheckExpr's error of the expression, behind that of the program, whatever the fuel is.
func TestExpressionsThatMayNotBe(t *testing.T) {
	p := prog("a = 1", "main = (#ret (Unit))")
	for what, x := range wrongExprs() {
		for _, fuel := range []int{0, 100, api.MaxFuel, -1, api.MaxFuel + 1, math.MinInt} {
			o, e := model.Eval(p, x.e, fuel)
			refuse(t, what, o, e, x.want)
		}
		if got := core.CheckExpr(p, x.e, nil); got != x.want {
			t.Errorf("%s: core tells %d", what, got)
		}
	}
	// The program's names are in scope, and no others.
	if got := told(evaluated(t, p, read("(#add a a)"), 100)); got != "value 2 in 4" {
		t.Errorf("a program's name: %s", got)
	}
	for _, name := range []string{"b", "x", "v", "add", "%no", "Nil"} {
		o, e := model.Eval(p, api.Expr{Kind: api.ExVar, Name: name}, 100)
		refuse(t, name, o, e, api.ErrScope)
	}
}

// P15.1, P15.2: fuel is from 0 to MaxFuel.
func TestFuelThatMayNotBe(t *testing.T) {
	p := mainIs("(#ret (Unit))")
	for _, fuel := range []int{-1, -2, math.MinInt, math.MinInt32, api.MaxFuel + 1, 1 << 32, math.MaxInt} {
		for _, input := range [][]byte{nil, []byte("abc"), make([]byte, api.MaxInput), make([]byte, api.MaxInput+1)} {
			for _, ended := range []bool{false, true} {
				o, e := model.Run(p, input, ended, fuel)
				refuse(t, "fuel", o, e, api.ErrArg)
			}
		}
		o, e := model.Eval(p, read("1"), fuel)
		refuse(t, "fuel", o, e, api.ErrArg)
	}
	for _, fuel := range []int{2, api.MaxFuel - 1, api.MaxFuel} {
		if got := told(ran(t, p, "", false, fuel)); got != "exit in 2" {
			t.Errorf("fuel %d: %s", fuel, got)
		}
	}
}

// P15.1: the world's error of an input that is too long; behind the others, and of any fuel.
func TestLongInput(t *testing.T) {
	last := "(#bind (#getc) (\\ c -> (#putc c)))"
	most := make([]byte, api.MaxInput)
	most[0] = 'x'
	for _, ended := range []bool{false, true} {
		for _, fuel := range []int{0, 7, api.MaxFuel} {
			for _, more := range []int{1, 2, 70000} {
				o, e := model.Run(mainIs(last), make([]byte, api.MaxInput+more), ended, fuel)
				refuse(t, "a long input", o, e, api.ErrLong)
			}
		}
		if got := told(ran(t, mainIs(last), string(most), ended, 100)); got != `exit wrote "x" used 1 in 7` {
			t.Errorf("an input of MaxInput bytes: %s", got)
		}
	}
}

// P15.1: an input of MaxInput bytes is read to its end, as far as the fuel goes.
func TestMostInput(t *testing.T) {
	p := prog("main = (#bind (#getc) (\\ c -> main))")
	input := make([]byte, api.MaxInput)
	// The second byte is read in the eighth step, and each later one three steps on: main is evaluated, the bind and the action are performed.
	if got := ran(t, p, string(input), true, api.MaxFuel); got.Kind != api.EndFuel || got.Used != (api.MaxFuel-8)/3+2 {
		t.Errorf("%s", told(got))
	}
}
