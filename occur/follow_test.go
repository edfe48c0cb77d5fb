package occur_test

import (
	"slices"
	"testing"

	"thunkmill/api"
	"thunkmill/core"
	"thunkmill/occur"
	"thunkmill/testkit"
)

// P16.2: same expressions have the same All but for names, and of what is free the same Of and Count.
func TestOtherNames(t *testing.T) {
	make := byChance(164)
	for range 6000 {
		e := make.Expr(1 + make.Chance.Intn(6))
		want := all(t, e)
		for _, n := range []testkit.Namer{testkit.Unlike(), testkit.ByLevel()} {
			other := n.Renamed(e, testkit.Itself(make.Names))
			if !core.Same(e, other) {
				t.Fatalf("the test's own names are wrong: %s, %s", core.Text(e), core.Text(other))
			}
			if got := all(t, other); !slices.Equal(occsOf(got), occsOf(want)) {
				t.Fatalf("All of %s: %s, of %s: %s", core.Text(e), occText(want), core.Text(other), occText(got))
			}
			for _, name := range make.Names {
				ofE, _ := occur.Of(e, name)
				countE, _ := occur.Count(e, name)
				ofIs(t, other, name, word(ofE))
				countIs(t, other, name, countE)
			}
		}
	}
}

// P16.2: Of is OccDead just where Count is 0, which is where the name is not free; and an expression grows by Count, if what is put in the name's place is greater by one.
func TestDeadWhereNone(t *testing.T) {
	make, two := byChance(165), read("(#ord 1)")
	for range 10000 {
		e := make.Expr(1 + make.Chance.Intn(6))
		free := core.Free(e)
		for _, name := range names("x", "y", "z", "v1", "nowhere") {
			occ, _ := occur.Of(e, name)
			count, _ := occur.Count(e, name)
			if (occ == api.OccDead) != (count == 0) || (count > 0) != slices.Contains(free, name) {
				t.Fatalf("%s of %s: %s, %d places, free are %q", name, core.Text(e), word(occ), count, free)
			}
			if count == 1 != (occ == api.OccOnce || occ == api.OccLam) {
				t.Fatalf("%s of %s: %s, %d places", name, core.Text(e), word(occ), count)
			}
			if grown := core.Size(core.Subst(e, name, two)) - core.Size(e); grown != count {
				t.Fatalf("%s of %s: Count %d, there are %d", name, core.Text(e), count, grown)
			}
		}
	}
}

// P16.1: a binder's occurrence is what Of tells in its scope: around a lambda's body, of a let all together, in an alternative.
func TestAllByOf(t *testing.T) {
	make := byChance(166)
	for range 10000 {
		e := make.Expr(1 + make.Chance.Intn(5))
		occ, _ := occur.Of(e, "x")
		want := append([]api.Occ{{Name: "x", Occ: occ}}, all(t, e)...)
		for _, around := range []api.Expr{
			{Kind: api.ExLam, Params: names("x"), Args: list(e)},
			{Kind: api.ExLet, Binds: []api.Bind{{Name: "x", E: e}}, Args: list(number(1))},
			{Kind: api.ExLet, Binds: []api.Bind{{Name: "x", E: number(1)}}, Args: list(e)},
			{Kind: api.ExCase, Args: list(number(1)), Alts: []api.Alt{{Kind: api.AltElse, Vars: names("x"), E: e}}},
		} {
			if got := all(t, around); !slices.Equal(got, want) {
				t.Fatalf("All of %s: %s, want %s", core.Text(around), occText(got), occText(want))
			}
		}
	}
}

// A binder more around does nothing to those further in, but takes its name's places from those further out.
func TestAllOfParts(t *testing.T) {
	make := byChance(167)
	for range 5000 {
		one, other := make.Expr(1+make.Chance.Intn(4)), make.Expr(1+make.Chance.Intn(4))
		want := append(all(t, one), all(t, other)...)
		for _, e := range []api.Expr{
			{Kind: api.ExApp, Args: list(one, other)}, {Kind: api.ExCon, Name: "Cons", Args: list(one, other)}, {Kind: api.ExPrim, Name: "add", Args: list(one, other)},
			{Kind: api.ExCase, Args: list(one), Alts: []api.Alt{{Kind: api.AltElse, E: other}}}, {Kind: api.ExCase, Args: list(number(1)), Alts: []api.Alt{{Kind: api.AltInt, E: one}, {Kind: api.AltElse, E: other}}},
		} {
			if got := all(t, e); !slices.Equal(got, want) {
				t.Fatalf("All of %s: %s, want %s", core.Text(e), occText(got), occText(want))
			}
		}
	}
}
