package prim_test

import (
	"math"
	"math/big"
	"math/rand"
	"slices"
	"testing"

	"thunkmill/api"
	"thunkmill/core"
	"thunkmill/prim"
)

// P8.1: Simple, Strict and Takes of each name that there is.
func TestEachName(t *testing.T) {
	for i, p := range all() {
		if got := prim.Simple(p.name); got != (i < 15) {
			t.Errorf("Simple(%s): %v", p.name, got)
		}
		if got := prim.Strict(p.name); got != p.strict {
			t.Errorf("Strict(%s): %d instead of %d", p.name, got, p.strict)
		}
		if got := core.Arity(p.name); got != p.arity {
			t.Errorf("%s has %d arguments, core tells %d", p.name, p.arity, got)
		}
		for k := -3; k < 40; k++ {
			want := 0
			if 0 <= k && k < p.arity {
				want = p.takes
			}
			if got := prim.Takes(p.name, k); got != want {
				t.Errorf("Takes(%s, %d): %d instead of %d", p.name, k, got, want)
			}
		}
		for _, k := range []int{math.MinInt, math.MaxInt, 1 << 32, -1 << 32} {
			if got := prim.Takes(p.name, k); got != 0 {
				t.Errorf("Takes(%s, %d): %d", p.name, k, got)
			}
		}
	}
}

// P8.1: the chapter's examples, and the edges of Takes, written out.
func TestExamplesOfNames(t *testing.T) {
	if a, s, b := prim.Strict("add"), prim.Strict("seq"), prim.Strict("bind"); a != 2 || s != 1 || b != 0 {
		t.Errorf("Strict of add, seq, bind: %d %d %d", a, s, b)
	}
	for _, x := range []struct {
		name    string
		i, want int
	}{{"add", -1, 0}, {"add", 0, api.PrimInt}, {"add", 1, api.PrimInt}, {"add", 2, 0}, {"clt", 1, api.PrimChar}, {"clt", 2, 0}, {"ord", -1, 0}, {"ord", 0, api.PrimChar}, {"ord", 1, 0}, {"chr", 0, api.PrimInt}, {"chr", 1, 0}, {"putc", 0, 0}, {"show", 0, 0}} {
		if got := prim.Takes(x.name, x.i); got != x.want {
			t.Errorf("Takes(%s, %d): %d instead of %d", x.name, x.i, got, x.want)
		}
	}
}

// P8.1: Simple, Strict and Takes of names that are none.
func TestNoNames(t *testing.T) {
	for _, name := range noNames() {
		if prim.Simple(name) || prim.Strict(name) != -1 {
			t.Errorf("%q: Simple %v, Strict %d", name, prim.Simple(name), prim.Strict(name))
		}
		for i := -2; i < 4; i++ {
			if got := prim.Takes(name, i); got != 0 {
				t.Errorf("Takes(%q, %d): %d", name, i, got)
			}
		}
	}
}

// P8.1: what Takes and Strict tell is what Apply takes.
func TestTakenAsTold(t *testing.T) {
	for _, name := range prim.Names() {
		if !prim.Simple(name) {
			continue
		}
		var args []api.Prim
		for i := 0; prim.Takes(name, i) != 0; i++ {
			args = append(args, api.Prim{Kind: prim.Takes(name, i), Num: 1})
		}
		if _, e := prim.Apply(name, args); e != api.OK || len(args) != prim.Strict(name) {
			t.Errorf("%s of %v: %v, Strict %d", name, args, e, prim.Strict(name))
		}
	}
}

// P8.2: digits, written out at the edges, and held to those of numbers that have no end.
func TestShow(t *testing.T) {
	for n, want := range map[int64]string{0: "0", 1: "1", -1: "-1", -5: "-5", 9: "9", 10: "10", -10: "-10", 100: "100", 1234567890: "1234567890", math.MaxInt64: "9223372036854775807", math.MinInt64: "-9223372036854775808", math.MinInt64 + 1: "-9223372036854775807", 1 << 32: "4294967296"} {
		if got := prim.Show(n); got != want {
			t.Errorf("Show(%d): %q", n, got)
		}
	}
	chance := rand.New(rand.NewSource(1))
	for range 3000 {
		n := int64(chance.Uint64()) >> chance.Intn(64)
		if got := prim.Show(n); got != big.NewInt(n).String() {
			t.Errorf("Show(%d): %q", n, got)
		}
	}
	for _, n := range edges() {
		if got := prim.Show(n); got != big.NewInt(n).String() {
			t.Errorf("Show(%d): %q", n, got)
		}
	}
}

// names are those of the chapter, rising.
func names() []string {
	return []string{"add", "bind", "ceq", "chr", "clt", "eof", "eq", "error", "exit", "ge", "getc", "gt", "le", "lt", "mul", "ne", "ord", "putc", "quot", "rem", "ret", "seq", "show", "sub"}
}

// P8.2: all names, rising, in each of many calls.
func TestNames(t *testing.T) {
	var told []string
	for _, p := range all() {
		told = append(told, p.name)
	}
	slices.Sort(told)
	if !slices.Equal(told, names()) {
		t.Fatalf("the test's own lists differ: %q", told)
	}
	for range 50 {
		if got := prim.Names(); !slices.Equal(got, names()) {
			t.Fatalf("Names: %q", got)
		}
	}
}

// Rule 4: what Names answers is the caller's own, its spare room too.
func TestNamesAreTheCallersOwn(t *testing.T) {
	kept, written := prim.Names(), prim.Names()
	for i := range written[:cap(written)] {
		written[:cap(written)][i] = "overwritten"
	}
	if !slices.Equal(kept, names()) || !slices.Equal(prim.Names(), names()) {
		t.Errorf("Names heeds what was written: %q, %q", kept, prim.Names())
	}
	if prim.Strict("overwritten") != -1 || prim.Strict("add") != 2 || !prim.Simple("add") {
		t.Errorf("Strict, Simple heed what was written")
	}
}

// Rule 4: Apply leaves what it was handed as it was, the spare room too, whether it is right or wrong.
func TestArgumentsAreLeft(t *testing.T) {
	mark := api.Prim{Kind: -9, Num: -9, Text: "a mark"}
	for _, p := range all() {
		lists := [][]api.Prim{good(p), nil, {number(1)}, {character(1), character(0)}, {number(7), number(0)}, {number(-1)}, {mark, mark}, {number(1), number(2), number(3)}}
		for _, args := range lists {
			room := append(slices.Clone(args), mark, mark)
			was := slices.Clone(room)
			first, e := prim.Apply(p.name, room[:len(args)])
			if !slices.Equal(room, was) {
				t.Errorf("%s of %v has written %v", p.name, args, room)
			}
			if again, f := prim.Apply(p.name, room[:len(args)]); again != first || f != e {
				t.Errorf("%s of %v: %v %v, then %v %v", p.name, args, first, e, again, f)
			}
		}
	}
}
