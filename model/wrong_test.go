package model_test

import (
	"math"
	"testing"

	"thunkmill/api"
	"thunkmill/core"
	"thunkmill/model"
	"thunkmill/testkit"
)

// refuse is what Run or Eval is to answer: an error, and with it the zero outcome.
func refuse(t *testing.T, what string, o api.Outcome, e, want api.Errno) {
	t.Helper()
	if e != want || told(o) != "none in 0" || o.Out != nil {
		t.Errorf("%s: %s, error %d, want error %d", what, told(o), e, want)
	}
}

// P15.1: core.Check's error, whatever the fuel and the input are.
func TestProgramsThatMayNotBe(t *testing.T) {
	long := make([]byte, api.MaxInput+1)
	for what, x := range testkit.WrongProgs() {
		for _, fuel := range []int{0, 100, api.MaxFuel, -1, api.MaxFuel + 1} {
			o, e := model.Run(x.P, nil, false, fuel)
			refuse(t, what, o, e, x.Err)
			o, e = model.Run(x.P, long, true, fuel)
			refuse(t, what, o, e, x.Err)
			o, e = model.Eval(x.P, read("1"), fuel)
			refuse(t, what, o, e, x.Err)
			o, e = model.Eval(x.P, api.Expr{}, fuel)
			refuse(t, what, o, e, x.Err)
		}
	}
}

// P15.2: core.CheckExpr's error of the expression, behind that of the program, whatever the fuel is.
func TestExpressionsThatMayNotBe(t *testing.T) {
	p := prog("a = 1", "main = (#ret (Unit))")
	for what, x := range testkit.WrongExprs() {
		for _, fuel := range []int{0, 100, api.MaxFuel, -1, api.MaxFuel + 1, math.MinInt} {
			o, e := model.Eval(p, x.E, fuel)
			refuse(t, what, o, e, x.Err)
		}
		if got := core.CheckExpr(p, x.E, nil); got != x.Err {
			t.Errorf("%s: core tells %d", what, got)
		}
	}
	// The program's names are in scope, and no others.
	if got := told(evaluated(t, p, read("(#add a a)"), 100)); got != "value 2 in 4" {
		t.Errorf("a program's name: %s", got)
	}
	for _, name := range []string{"b", "x", "v", "add", "%no", "Nil"} {
		o, e := model.Eval(p, api.Expr{Kind: api.ExVar, Name: name}, 100)
		refuse(t, name, o, e, api.ErrScope)
	}
}

// P15.1, P15.2: fuel is from 0 to MaxFuel.
func TestFuelThatMayNotBe(t *testing.T) {
	p := mainIs("(#ret (Unit))")
	for _, fuel := range []int{-1, -2, math.MinInt, math.MinInt32, api.MaxFuel + 1, 1 << 32, math.MaxInt} {
		for _, input := range [][]byte{nil, []byte("abc"), make([]byte, api.MaxInput), make([]byte, api.MaxInput+1)} {
			for _, ended := range []bool{false, true} {
				o, e := model.Run(p, input, ended, fuel)
				refuse(t, "fuel", o, e, api.ErrArg)
			}
		}
		o, e := model.Eval(p, read("1"), fuel)
		refuse(t, "fuel", o, e, api.ErrArg)
	}
	for _, fuel := range []int{2, api.MaxFuel - 1, api.MaxFuel} {
		if got := told(ran(t, p, "", false, fuel)); got != "exit in 2" {
			t.Errorf("fuel %d: %s", fuel, got)
		}
	}
}

// P15.1: the world's error of an input that is too long; behind the others, and of any fuel.
func TestLongInput(t *testing.T) {
	last := "(#bind (#getc) (\\ c -> (#putc c)))"
	most := make([]byte, api.MaxInput)
	most[0] = 'x'
	for _, ended := range []bool{false, true} {
		for _, fuel := range []int{0, 7, api.MaxFuel} {
			for _, more := range []int{1, 2, 70000} {
				o, e := model.Run(mainIs(last), make([]byte, api.MaxInput+more), ended, fuel)
				refuse(t, "a long input", o, e, api.ErrLong)
			}
		}
		if got := told(ran(t, mainIs(last), string(most), ended, 100)); got != `exit wrote "x" used 1 in 7` {
			t.Errorf("an input of MaxInput bytes: %s", got)
		}
	}
}

// P15.1: an input of MaxInput bytes is read to its end, as far as the fuel goes.
func TestMostInput(t *testing.T) {
	p := prog("main = (#bind (#getc) (\\ c -> main))")
	input := make([]byte, api.MaxInput)
	// The second byte is read in the eighth step, and each later one three steps on: main is evaluated, the bind and the action are performed.
	if got := ran(t, p, string(input), true, api.MaxFuel); got.Kind != api.EndFuel || got.Used != (api.MaxFuel-8)/3+2 {
		t.Errorf("%s", told(got))
	}
}
