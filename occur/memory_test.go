package occur_test

import (
	"math/rand"
	"reflect"
	"slices"
	"testing"

	"thunkmill/api"
	"thunkmill/occur"
	"thunkmill/testkit"
)

// handedIn are expressions as they may be, and as they may not.
func handedIn() []api.Expr {
	make, w := byChance(168), wild{rand.New(rand.NewSource(169))}
	var l []api.Expr
	for range 700 {
		l = append(l, make.Expr(1+make.Chance.Intn(5)), w.expr(1+w.Intn(4)))
	}
	return l
}

// Rule 4: what is handed in is as it was, and its spare room counts nothing.
func TestHandedInStays(t *testing.T) {
	for _, plain := range handedIn() {
		e := testkit.SpareExpr(plain)
		was := testkit.WholeExpr(e)
		for _, name := range names("x", "y", "a mark", "") {
			want, _ := occur.Of(plain, name)
			wantCount, _ := occur.Count(plain, name)
			ofIs(t, e, name, word(want))
			countIs(t, e, name, wantCount)
		}
		if got, want := all(t, e), all(t, plain); !slices.Equal(got, want) {
			t.Errorf("All of %s: %s, want %s", brief(plain), occText(got), occText(want))
		}
		if !reflect.DeepEqual(testkit.WholeExpr(e), was) {
			t.Errorf("what was handed in is changed: %s", brief(plain))
		}
		if t.Failed() {
			return
		}
	}
}

// Rule 4: what All answers is new memory, its spare room too: later calls have no part in it, nor has what was handed in.
func TestAnswersAreTheCallers(t *testing.T) {
	for _, e := range handedIn() {
		e = testkit.SpareExpr(e)
		was := testkit.WholeExpr(e)
		first, want := all(t, e), slices.Clone(all(t, e))
		other := all(t, e)
		room := other[:cap(other)]
		for i := range room {
			room[i] = api.Occ{Name: "overwritten", Occ: -1}
		}
		if !reflect.DeepEqual(testkit.WholeExpr(e), was) {
			t.Fatalf("what was handed in heeds an answer: %s", brief(e))
		}
		if again := all(t, e); !slices.Equal(again, want) || !slices.Equal(first, want) {
			t.Fatalf("answers heed one another: %s, %s, want %s", occText(first), occText(again), occText(want))
		}
		testkit.OverwriteExpr(&e)
		if !slices.Equal(first, want) {
			t.Fatalf("an answer heeds what was handed in: %s, want %s", occText(first), occText(want))
		}
	}
}

// A list that stands at several places is in each of them what its scope makes of it.
func TestSharedLists(t *testing.T) {
	body := list(read("(x y)"))
	x := api.Expr{Kind: api.ExLam, Params: names("x"), Args: body}
	y := api.Expr{Kind: api.ExLam, Params: names("y"), Args: body}
	e := api.Expr{Kind: api.ExApp, Args: list(x, y, body[0])}
	allIs(t, e, "x once, y once")
	countIs(t, e, "x", 2)
	ofIs(t, e, "x", "many")
	alts := []api.Alt{{Kind: api.AltInt, Num: 1, E: body[0]}, {Kind: api.AltElse, E: body[0]}}
	e = api.Expr{Kind: api.ExCase, Args: list(number(1)), Alts: []api.Alt{{Kind: api.AltInt, Num: 1, E: api.Expr{Kind: api.ExCase, Args: list(number(1)), Alts: alts}}, {Kind: api.AltElse, Vars: names("x"), E: api.Expr{Kind: api.ExCase, Args: list(number(1)), Alts: alts}}}}
	ofIs(t, e, "x", "branch")
	countIs(t, e, "x", 2)
	ofIs(t, e, "y", "branch")
	countIs(t, e, "y", 4)
	allIs(t, e, "x branch")
}

// Rule 8, T6: what a call answers hangs on what it is given alone: it is the same again, whatever was called in between, and from whatever goroutine.
func TestAgain(t *testing.T) {
	l := handedIn()
	for _, wrong := range testkit.Again(len(l), func(i int) string { return occText(all(t, l[i])) }) {
		t.Error(wrong)
	}
}
