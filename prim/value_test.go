package prim_test

import (
	"cmp"
	"math"
	"math/big"
	"math/rand"
	"testing"

	"thunkmill/api"
)

// P8.1: the examples of the chapter that have a value.
func TestExamples(t *testing.T) {
	is(t, "add", number(math.MinInt64), number(math.MaxInt64), number(1))
	is(t, "quot", number(-3), number(-7), number(2))
	is(t, "rem", number(-1), number(-7), number(2))
	is(t, "quot", failure("divide by zero"), number(1), number(0))
	is(t, "chr", failure("chr out of range"), number(256))
	is(t, "chr", character(65), number(65))
}

// P8.1: each primitive of the table at ordinary arguments.
func TestOrdinary(t *testing.T) {
	for name, want := range map[string]api.Prim{
		"add": number(20), "sub": number(14), "mul": number(51), "quot": number(5), "rem": number(2),
		"eq": truth(false), "ne": truth(true), "lt": truth(false), "le": truth(false), "gt": truth(true), "ge": truth(true),
	} {
		is(t, name, want, number(17), number(3))
	}
	for name, want := range map[string]api.Prim{
		"add": number(-2), "sub": number(-12), "mul": number(-35), "quot": number(-1), "rem": number(-2),
		"eq": truth(false), "ne": truth(true), "lt": truth(true), "le": truth(true), "gt": truth(false), "ge": truth(false),
	} {
		is(t, name, want, number(-7), number(5))
	}
	is(t, "ceq", truth(true), character('a'), character('a'))
	is(t, "ceq", truth(false), character('a'), character('b'))
	is(t, "clt", truth(true), character('a'), character('b'))
	is(t, "clt", truth(false), character('a'), character('a'))
	is(t, "clt", truth(false), character('b'), character('a'))
	is(t, "ord", number(97), character('a'))
	is(t, "chr", character('z'), number(122))
}

// P8.1: sums, differences and products at the edges, written out.
func TestWrappedAtEdges(t *testing.T) {
	const least, most = math.MinInt64, math.MaxInt64
	for _, x := range []struct {
		name       string
		a, b, want int64
	}{
		{"add", most, 1, least}, {"add", least, -1, most}, {"add", least, least, 0}, {"add", most, most, -2}, {"add", least, most, -1}, {"add", least + 1, -1, least}, {"add", least, 0, least}, {"add", 0, most, most}, {"add", least, 1, least + 1},
		{"sub", least, 1, most}, {"sub", most, -1, least}, {"sub", 0, least, least}, {"sub", -1, least, most}, {"sub", 1, least, least + 1}, {"sub", least, least, 0}, {"sub", most, most, 0}, {"sub", least, most, 1}, {"sub", most, least, -1}, {"sub", 0, most, least + 1}, {"sub", least + 1, 1, least},
		{"mul", least, -1, least}, {"mul", least, least, 0}, {"mul", most, most, 1}, {"mul", least, most, least}, {"mul", most, 2, -2}, {"mul", least, 2, 0}, {"mul", most, -1, least + 1}, {"mul", least + 1, -1, most}, {"mul", least, 1, least}, {"mul", least, 0, 0}, {"mul", 1 << 32, 1 << 32, 0}, {"mul", 1 << 32, 1 << 31, least}, {"mul", 3037000500, 3037000500, -9223372036709301616},
	} {
		is(t, x.name, number(x.want), number(x.a), number(x.b))
	}
}

// P8.1: quotients and what is left, of both signs, by 0, by -1, by the least number, written out.
func TestDividedAtEdges(t *testing.T) {
	const least, most = math.MinInt64, math.MaxInt64
	for _, x := range []struct{ a, b, quot, rem int64 }{
		{7, 2, 3, 1}, {-7, 2, -3, -1}, {7, -2, -3, 1}, {-7, -2, 3, -1}, {6, 3, 2, 0}, {-6, 3, -2, 0}, {6, -3, -2, 0}, {-6, -3, 2, 0}, {1, 2, 0, 1}, {-1, 2, 0, -1}, {1, -2, 0, 1}, {-1, -2, 0, -1}, {0, 5, 0, 0}, {0, -5, 0, 0},
		{least, -1, least, 0}, {least, 1, least, 0}, {least, least, 1, 0}, {most, least, 0, most}, {-1, least, 0, -1}, {0, least, 0, 0}, {1, least, 0, 1}, {least + 1, least, 0, least + 1}, {least, most, -1, -1}, {least, least + 1, 1, -1}, {most, -1, -most, 0}, {least + 1, -1, most, 0}, {most, most, 1, 0}, {least, 2, least / 2, 0}, {most, 2, most / 2, 1}, {least, 10, -922337203685477580, -8},
	} {
		is(t, "quot", number(x.quot), number(x.a), number(x.b))
		is(t, "rem", number(x.rem), number(x.a), number(x.b))
	}
	for _, a := range edges() {
		is(t, "quot", failure("divide by zero"), number(a), number(0))
		is(t, "rem", failure("divide by zero"), number(a), number(0))
	}
}

// P8.1: the six comparisons at numbers below, the same and above.
func TestCompared(t *testing.T) {
	for _, a := range edges() {
		for _, b := range edges() {
			at := cmp.Compare(a, b)
			for name, want := range map[string]bool{"eq": at == 0, "ne": at != 0, "lt": at < 0, "le": at <= 0, "gt": at > 0, "ge": at >= 0} {
				is(t, name, truth(want), number(a), number(b))
			}
		}
	}
	const least, most = math.MinInt64, math.MaxInt64
	is(t, "lt", truth(true), number(least), number(most))
	is(t, "gt", truth(true), number(most), number(least))
	is(t, "eq", truth(false), number(least), number(0))
	is(t, "le", truth(true), number(least), number(least))
	is(t, "ge", truth(true), number(most), number(most))
	is(t, "ne", truth(false), number(most), number(most))
}

// P8.1: all characters, those at the ends among them.
func TestCharacters(t *testing.T) {
	for a := range int64(256) {
		is(t, "ord", number(a), character(a))
		is(t, "chr", character(a), number(a))
		for b := range int64(256) {
			is(t, "ceq", truth(a == b), character(a), character(b))
			is(t, "clt", truth(a < b), character(a), character(b))
		}
	}
	for _, n := range []int64{-1, 256, -2, 257, -256, -65, 65 + 256, 1 << 8, 1 << 16, 1<<32 + 65, 1 << 40, math.MinInt64, math.MaxInt64, math.MinInt64 + 65} {
		is(t, "chr", failure("chr out of range"), number(n))
	}
}

// wrapped is a whole number as it stands in 64 bits.
func wrapped(x *big.Int) int64 {
	two64 := new(big.Int).Lsh(big.NewInt(1), 64)
	low := new(big.Int).Mod(x, two64)
	if low.Bit(63) == 1 {
		low.Sub(low, two64)
	}
	return low.Int64()
}

// P8.1: arithmetic of two numbers, held to numbers that have no end.
func reckoned(t *testing.T, a, b int64) {
	t.Helper()
	x, y := big.NewInt(a), big.NewInt(b)
	is(t, "add", number(wrapped(new(big.Int).Add(x, y))), number(a), number(b))
	is(t, "sub", number(wrapped(new(big.Int).Sub(x, y))), number(a), number(b))
	is(t, "mul", number(wrapped(new(big.Int).Mul(x, y))), number(a), number(b))
	if b != 0 {
		is(t, "quot", number(wrapped(new(big.Int).Quo(x, y))), number(a), number(b))
		is(t, "rem", number(wrapped(new(big.Int).Rem(x, y))), number(a), number(b))
	}
}

// P8.3: what follows of two numbers.
func follows(t *testing.T, a, b int64) {
	t.Helper()
	x, y := number(a), number(b)
	if n := asked(t, "lt", api.PrimBool, x, y) + asked(t, "eq", api.PrimBool, x, y) + asked(t, "gt", api.PrimBool, x, y); n != 1 {
		t.Errorf("%d and %d: %d of lt, eq, gt are true", a, b, n)
	}
	if b == 0 {
		return
	}
	quot, rem := asked(t, "quot", api.PrimInt, x, y), asked(t, "rem", api.PrimInt, x, y)
	again := asked(t, "add", api.PrimInt, number(asked(t, "mul", api.PrimInt, number(quot), y)), number(rem))
	if again != a {
		t.Errorf("%d by %d: quot %d and rem %d are %d again", a, b, quot, rem, again)
	}
	if rem != 0 && (rem < 0) != (a < 0) {
		t.Errorf("%d by %d: the sign of rem %d", a, b, rem)
	}
}

// P8.1, P8.3: over all pairs of edges.
func TestEdges(t *testing.T) {
	for _, a := range edges() {
		for _, b := range edges() {
			reckoned(t, a, b)
			follows(t, a, b)
		}
	}
}

// P8.1, P8.3: over numbers made by chance, of all lengths, beside each other and beside the edges.
func TestByChance(t *testing.T) {
	chance := rand.New(rand.NewSource(8))
	one := func() int64 { return int64(chance.Uint64()) >> chance.Intn(64) }
	for range 5000 {
		a, b := one(), one()
		edge := edges()[chance.Intn(len(edges()))]
		for _, pair := range [][2]int64{{a, b}, {a, a}, {a, -a}, {a, edge}, {edge, b}} {
			reckoned(t, pair[0], pair[1])
			follows(t, pair[0], pair[1])
		}
	}
}
