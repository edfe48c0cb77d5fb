package model_test

import (
	"testing"

	"thunkmill/api"
	"thunkmill/model"
)

// The chapter's worked examples.
func TestExamples(t *testing.T) {
	echo := "(#bind (#getc) (\\ c -> (#putc c)))"
	for _, x := range []struct {
		main, input string
		ended       bool
		want        api.Outcome
	}{
		{"(#ret (Unit))", "", false, api.Outcome{Kind: api.EndExit}},
		{echo, "a", false, api.Outcome{Kind: api.EndExit, Out: []byte("a"), Used: 1}},
		{echo, "", false, api.Outcome{Kind: api.EndNeed}},
		{echo, "", true, api.Outcome{Kind: api.EndError, Text: "end of input"}},
		{"(#exit (#add 1 2))", "", false, api.Outcome{Kind: api.EndExit, Code: 3}},
		{"(let x = x in (#seq x (#ret x)))", "", false, api.Outcome{Kind: api.EndLoop}},
		{"(1 2)", "", false, api.Outcome{Kind: api.EndWrong, Wrong: api.WrongApply}},
		{"(#putc 1)", "", false, api.Outcome{Kind: api.EndWrong, Wrong: api.WrongPrim}},
		{"(case 1 of 2 -> (#ret (Unit)))", "", false, api.Outcome{Kind: api.EndError, Text: "no match"}},
	} {
		for _, fuel := range []int{100, api.MaxFuel} {
			if got := ran(t, mainIs(x.main), x.input, x.ended, fuel); !model.Same(got, x.want) {
				t.Errorf("%s on %q, ended %v: %s", x.main, x.input, x.ended, told(got))
			}
		}
	}
}
