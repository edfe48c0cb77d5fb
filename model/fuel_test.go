package model_test

import (
	"testing"

	"thunkmill/api"
	"thunkmill/model"
)

// checkFuel asks for an outcome that ends otherwise than by EndFuel with each lesser fuel, just enough, and more.
func checkFuel(t *testing.T, what string, whole api.Outcome, with func(fuel int) api.Outcome) {
	t.Helper()
	last := api.Outcome{Kind: api.EndFuel}
	for fuel := range min(whole.Steps, 300) {
		got := with(fuel)
		if got.Kind != api.EndFuel || got.Steps != fuel || got.Code != 0 || got.Text != "" || got.Wrong != 0 {
			t.Fatalf("%s, fuel %d of %d: %s", what, fuel, whole.Steps, told(got))
		}
		if !model.Follows(got, whole) || !model.Follows(last, got) || got.Used < last.Used || got.Used > whole.Used {
			t.Fatalf("%s, fuel %d: %s, then %s", what, fuel, told(last), told(got))
		}
		last = got
	}
	for _, fuel := range []int{whole.Steps, whole.Steps + 1, whole.Steps + 2, 2*whole.Steps + 1, api.MaxFuel} {
		if got := with(fuel); !same(got, whole) {
			t.Fatalf("%s, fuel %d: %s, want %s", what, fuel, told(got), told(whole))
		}
	}
	if whole.Steps > 0 {
		if got := with(whole.Steps - 1); got.Kind != api.EndFuel || got.Steps != whole.Steps-1 || !model.Follows(got, whole) {
			t.Fatalf("%s, one step less than %d: %s", what, whole.Steps, told(got))
		}
	}
}

// P15.1, P15.2: without fuel nothing is evaluated.
func TestNoFuel(t *testing.T) {
	for _, text := range []string{"1", "(1 2)", "(let x = x in x)", "(#ret 1)", "(#error (Nil))", "(case 1 of 2 -> 3)", "main"} {
		if got := told(ran(t, prog("main = (#bind (#putc '97') (\\ x -> main))", "x = "+text), "ab", true, 0)); got != "fuel in 0" {
			t.Errorf("a run without fuel: %s", got)
		}
		if got := told(evaluated(t, mainIs("(#ret 1)"), read(text), 0)); got != "fuel in 0" {
			t.Errorf("%s without fuel: %s", text, got)
		}
	}
}

// P15.1, P15.4: a run without an end takes all of its fuel, and what it has written by then is more with more fuel.
func TestEndlessRun(t *testing.T) {
	p := prog("main = (#bind (#putc '97') (\\ x -> main))")
	// The first byte is written behind five steps: the bind and the putc, each evaluated and performed, and the character. Then the function and its body are evaluated, and from then on a round takes three steps: what was evaluated once has its value.
	for fuel, want := range map[int]int{0: 0, 3: 0, 4: 0, 5: 1, 6: 1, 7: 1, 8: 1, 9: 2, 10: 2, 11: 2, 12: 3, 14: 3, 15: 4} {
		if got := ran(t, p, "", false, fuel); got.Kind != api.EndFuel || got.Steps != fuel || len(got.Out) != want {
			t.Errorf("fuel %d: %s, want %d bytes", fuel, told(got), want)
		}
	}
	last := ran(t, p, "", false, 0)
	for fuel := 1; fuel < api.MaxFuel; fuel += 1 + fuel/3 {
		got := ran(t, p, "", false, fuel)
		if got.Kind != api.EndFuel || got.Steps != fuel || !model.Follows(last, got) || model.Same(last, got) != (len(last.Out) == len(got.Out)) {
			t.Fatalf("fuel %d: %d steps, %d bytes behind %d", fuel, got.Steps, len(got.Out), len(last.Out))
		}
		last = got
	}
	if got := ran(t, p, "", false, api.MaxFuel); got.Kind != api.EndFuel || got.Steps != api.MaxFuel {
		t.Errorf("fuel %d: kind %d, %d steps", api.MaxFuel, got.Kind, got.Steps)
	}
}
