package prim_test

import (
	"math"
	"testing"

	"thunkmill/api"
	"thunkmill/prim"
)

// told is a primitive as the chapter tells it: how many arguments it has, how many of them are strict, and the kind of all of them, 0 of one that is not of the table.
type told struct {
	name   string
	arity  int
	strict int
	takes  int
}

// all are the primitives in the chapter's order.
func all() []told {
	return []told{
		{"add", 2, 2, api.PrimInt}, {"sub", 2, 2, api.PrimInt}, {"mul", 2, 2, api.PrimInt}, {"quot", 2, 2, api.PrimInt}, {"rem", 2, 2, api.PrimInt},
		{"eq", 2, 2, api.PrimInt}, {"ne", 2, 2, api.PrimInt}, {"lt", 2, 2, api.PrimInt}, {"le", 2, 2, api.PrimInt}, {"gt", 2, 2, api.PrimInt}, {"ge", 2, 2, api.PrimInt},
		{"ceq", 2, 2, api.PrimChar}, {"clt", 2, 2, api.PrimChar}, {"ord", 1, 1, api.PrimChar}, {"chr", 1, 1, api.PrimInt},
		{"seq", 2, 1, 0}, {"error", 1, 0, 0}, {"show", 1, 1, 0}, {"ret", 1, 0, 0}, {"bind", 2, 0, 0}, {"getc", 0, 0, 0}, {"putc", 1, 0, 0}, {"eof", 0, 0, 0}, {"exit", 1, 0, 0},
	}
}

// simple are those of the table, others are the rest.
func simple() []told { return all()[:15] }

func others() []told { return all()[15:] }

// noNames are names of no primitive.
func noNames() []string {
	return []string{"", " ", "zoe", "ADD", "Add", "adD", "add ", " add", "addd", "ad", "add\x00", "#add", "Ord", "CHR", "SEQ", "Getc", "+", "div", "mod", "neg", "cne", "cle", "and", "\xff", "ädd"}
}

func number(n int64) api.Prim { return api.Prim{Kind: api.PrimInt, Num: n} }

func character(n int64) api.Prim { return api.Prim{Kind: api.PrimChar, Num: n} }

func failure(text string) api.Prim { return api.Prim{Kind: api.PrimError, Text: text} }

func truth(is bool) api.Prim {
	if is {
		return api.Prim{Kind: api.PrimBool, Num: 1}
	}
	return api.Prim{Kind: api.PrimBool}
}

// good are arguments that a primitive takes, each another one.
func good(p told) []api.Prim {
	var l []api.Prim
	for i := range p.arity {
		kind := p.takes
		if kind == 0 {
			kind = api.PrimInt
		}
		l = append(l, api.Prim{Kind: kind, Num: int64(65 + i)})
	}
	return l
}

// edges are the numbers at which arithmetic is like to be wrong, the least and the greatest one first.
func edges() []int64 {
	l := []int64{math.MinInt64, math.MaxInt64, math.MinInt64 + 1, math.MaxInt64 - 1, math.MinInt64 / 2, math.MinInt64/2 - 1, math.MaxInt64 / 2, math.MaxInt64/2 + 1}
	for n := int64(-10); n <= 10; n++ {
		l = append(l, n)
	}
	for _, shift := range []int{8, 31, 32, 33, 53} {
		for _, off := range []int64{-1, 0, 1} {
			l = append(l, 1<<shift+off, -1<<shift+off)
		}
	}
	return l
}

func is(t *testing.T, name string, want api.Prim, args ...api.Prim) {
	t.Helper()
	if got, e := prim.Apply(name, args); got != want || e != api.OK {
		t.Errorf("%s of %v: %v %v instead of %v", name, args, got, e, want)
	}
}

func isWrong(t *testing.T, what, name string, args []api.Prim) {
	t.Helper()
	if got, e := prim.Apply(name, args); got != (api.Prim{}) || e != api.ErrArg {
		t.Errorf("%s: %s of %v: %v %v", what, name, args, got, e)
	}
}

// asked is the number of an answer that must be there.
func asked(t *testing.T, name string, kind int, args ...api.Prim) int64 {
	t.Helper()
	got, e := prim.Apply(name, args)
	if e != api.OK || got.Kind != kind || got.Text != "" {
		t.Fatalf("%s of %v: %v %v", name, args, got, e)
	}
	return got.Num
}
