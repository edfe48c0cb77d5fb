package model_test

import (
	"fmt"
	"slices"
	"testing"

	"thunkmill/api"
	"thunkmill/core"
	"thunkmill/model"
	"thunkmill/testkit"
)

// read is the expression of a text as chapter 7 tells it.
func read(text string) api.Expr { return testkit.MustCore(text) }

func cons() []api.Con { return testkit.Cons() }

func prog(lines ...string) api.Prog { return testkit.Prog(lines...) }

// mainIs is a program of main alone.
func mainIs(text string) api.Prog { return prog("main = " + text) }

// told is an outcome with all of its fields that are not zero.
func told(o api.Outcome) string {
	kinds := []string{"none", "exit", "error", "need", "wrong", "loop", "fuel", "full", "value"}
	wrongs := []string{"", " apply", " case", " prim", " action"}
	s := kinds[o.Kind] + wrongs[o.Wrong]
	if o.Code != 0 {
		s += fmt.Sprint(" ", o.Code)
	}
	if o.Text != "" {
		s += " " + o.Text
	}
	if len(o.Out) > 0 {
		s += fmt.Sprintf(" wrote %q", o.Out)
	}
	if o.Used != 0 {
		s += fmt.Sprint(" used ", o.Used)
	}
	return s + fmt.Sprint(" in ", o.Steps)
}

// ran is the outcome of a program that may be.
func ran(t *testing.T, p api.Prog, input string, ended bool, fuel int) api.Outcome {
	t.Helper()
	o, e := model.Run(p, []byte(input), ended, fuel)
	if e != api.OK {
		t.Fatalf("%.3000s on %.300q, fuel %d: error %d", core.ProgText(p), input, fuel, e)
	}
	return o
}

// evaluated is the outcome of an expression that may be.
func evaluated(t *testing.T, p api.Prog, e api.Expr, fuel int) api.Outcome {
	t.Helper()
	o, no := model.Eval(p, e, fuel)
	if no != api.OK {
		t.Fatalf("%s, fuel %d: error %d", core.Text(e), fuel, no)
	}
	return o
}

// same tells whether all fields of two outcomes are the same, the steps too.
func same(a, b api.Outcome) bool {
	return model.Same(a, b) && told(a) == told(b)
}

// list is a list's text.
func list(parts ...string) string {
	l := "(Nil)"
	for _, part := range slices.Backward(parts) {
		l = "(Cons " + part + " " + l + ")"
	}
	return l
}

// chars is a text as a list's text.
func chars(s string) string {
	var l []string
	for _, c := range []byte(s) {
		l = append(l, fmt.Sprintf("'%d'", c))
	}
	return list(l...)
}
