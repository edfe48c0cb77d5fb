package occur_test

import (
	"testing"

	"thunkmill/api"
)

// The chapter's worked examples.
func TestExamples(t *testing.T) {
	for text, want := range map[string]string{
		"1": "dead", "x": "once", "(\\ y -> x)": "lam", "(x x)": "many", "(case z of 1 -> x; _ -> x)": "branch", "(case x of 1 -> x; _ -> 2)": "many",
	} {
		ofIs(t, read(text), "x", want)
	}
}

// The numbers of the occurrences are the chapter's.
func TestNumbers(t *testing.T) {
	for text, want := range map[string]int{"1": 1, "x": 2, "(case z of 1 -> x; _ -> x)": 3, "(\\ y -> x)": 4, "(x x)": 5} {
		lam := api.Expr{Kind: api.ExLam, Params: names("x"), Args: list(read(text))}
		if got := all(t, lam)[0]; got != (api.Occ{Name: "x", Occ: want}) {
			t.Errorf("%s: %+v, want %d", text, got, want)
		}
	}
}
