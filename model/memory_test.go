package model_test

import (
	"reflect"
	"testing"

	"thunkmill/api"
	"thunkmill/core"
	"thunkmill/model"
	"thunkmill/testkit"
)

// Rule 4: what is handed in is left as it was, its spare room too.
func TestMemory(t *testing.T) {
	m := seeded(7)
	for range 1500 {
		p := testkit.SpareProg(m.Program())
		e := testkit.SpareExpr(m.Expr(m.anySort(), 1+m.Intn(4)))
		room := []byte("abc!!")
		wasP, wasE := testkit.WholeProg(p), testkit.WholeExpr(e)
		got, no := model.Run(p, room[:3], m.Intn(2) == 0, 300)
		of, wrong := model.Eval(p, e, 300)
		if no != api.OK || wrong != api.OK {
			t.Fatalf("%s: errors %d, %d", core.ProgText(p), no, wrong)
		}
		if !reflect.DeepEqual(testkit.WholeProg(p), wasP) || !reflect.DeepEqual(testkit.WholeExpr(e), wasE) || string(room) != "abc!!" {
			t.Fatalf("what was handed in is changed: %s, %s, %q", core.ProgText(p), core.Text(e), room)
		}
		first, second := told(got), told(of)
		for i := range p.Binds {
			testkit.OverwriteExpr(&p.Binds[i].E)
		}
		testkit.OverwriteExpr(&e)
		clear(room)
		if told(got) != first || told(of) != second {
			t.Fatalf("an outcome heeds what was handed in: %s, then %s; %s, then %s", first, told(got), second, told(of))
		}
	}
}

// Rule 4: the bytes of an outcome are the caller's own, spare room too.
func TestOutIsNew(t *testing.T) {
	input := []byte("abcdefgh")
	for range 3 {
		one, _ := model.Run(echo(), input, true, 1000)
		two, _ := model.Run(echo(), input, true, 1000)
		for _, o := range []api.Outcome{one, two} {
			if string(o.Out) != "abcdefgh" {
				t.Fatalf("written %q", o.Out)
			}
		}
		full := one.Out[:cap(one.Out)]
		for i := range full {
			full[i] = '!'
		}
		if string(two.Out) != "abcdefgh" || string(input) != "abcdefgh" {
			t.Fatalf("outcomes share memory: %q, %q", two.Out, input)
		}
		clear(input)
		if string(two.Out) != "abcdefgh" {
			t.Fatalf("an outcome heeds its input")
		}
		copy(input, "abcdefgh")
	}
}

// Rule 4: lists that stand at several places of a program, in scopes of different names.
func TestSharedLists(t *testing.T) {
	l := []api.Expr{{Kind: api.ExVar, Name: "x"}, {Kind: api.ExVar, Name: "y"}}
	sub := api.Expr{Kind: api.ExPrim, Name: "sub", Args: l}
	one := api.Expr{Kind: api.ExLam, Params: []string{"x", "y"}, Args: []api.Expr{sub}}
	two := api.Expr{Kind: api.ExLam, Params: []string{"y", "x"}, Args: []api.Expr{sub}}
	app := func(f api.Expr) api.Expr {
		return api.Expr{Kind: api.ExApp, Args: []api.Expr{f, {Kind: api.ExInt, Num: 9}, {Kind: api.ExInt, Num: 2}}}
	}
	pair := api.Expr{Kind: api.ExPrim, Name: "mul", Args: []api.Expr{app(one), app(two)}}
	p := prog("main = 1", "x = 100", "y = 1")
	for e, want := range map[*api.Expr]string{&pair: "value -49 in 15", &sub: "value 99 in 5"} {
		if got := told(evaluated(t, p, *e, 100)); got != want {
			t.Errorf("%s: %s, want %s", core.Text(*e), got, want)
		}
	}
	// A list that is bound anew, layer by layer, in its own copy.
	body := []api.Expr{l[0]}
	e := api.Expr{Kind: api.ExLam, Params: []string{"x"}, Args: body}
	e = api.Expr{Kind: api.ExApp, Args: []api.Expr{{Kind: api.ExLam, Params: []string{"f"}, Args: []api.Expr{{Kind: api.ExApp, Args: append([]api.Expr{{Kind: api.ExVar, Name: "f"}}, body...)}}}, e}}
	if got := told(evaluated(t, p, e, 100)); got != "value 100 in 7" {
		t.Errorf("%s: %s", core.Text(e), got)
	}
}

// Rule 8, T6: what a call answers hangs on what it is given alone: it is the same again, whatever was called in between, and from whatever goroutine.
func TestAgain(t *testing.T) {
	m := seeded(8)
	var l []api.Prog
	for range 300 {
		l = append(l, m.Program())
	}
	for _, wrong := range testkit.Again(len(l), func(i int) string {
		return core.ProgText(l[i]) + ": " + told(ran(t, l[i], "ab", true, 700))
	}) {
		t.Error(wrong)
	}
}
