package scope_test

import (
	"math/rand"
	"reflect"
	"slices"
	"testing"

	"thunkmill/api"
	"thunkmill/scope"
	"thunkmill/testkit"
)

func seeded(n int64) *rand.Rand { return rand.New(rand.NewSource(n)) }

// inMemory are programs with faults and without.
var inMemory = []string{
	"f 1 = 2\nf x = g x where { g y = add y x ; (a, b) = 1 }\n(c, d@e) = [ x | x <- c, let { y = x } ]\nh = do { x <- d ; let { z = x } ; (+ z) x }\nx + y = \\ u (v, w) -> case u of { k | v -> w ; l -> k where { k = l } }",
	"f = 1\ng = y\nf = 2", "f x (y, x) = 1", "f = [ z | x <- 1, let { y = 1 ; y = 2 } ]", "f 1 = 2\nf 1 2 = 3", "f = (+++ 1)",
}

// Rule 4: what is handed in is as it was, its spare room too.
func TestHandedInStays(t *testing.T) {
	for _, text := range inMemory {
		n := testkit.Spare(parsed(t, text))
		before := deepCopy(n)
		want := scope.Check(parsed(t, text))
		checkFault(t, text, n, want)
		scope.Defines(n.Kids)
		testkit.Each(&n, func(n *api.Node) {
			scope.Free(*n)
			scope.Names(n.Kids)
			scope.Defines(n.Kids)
		})
		if !reflect.DeepEqual(withSpare(n), before) {
			t.Errorf("%s: what was handed in has changed", text)
		}
	}
}

// deepCopy is a node with its spare room, in memory of its own.
func deepCopy(n api.Node) api.Node { return withSpare(n) }

// withSpare is a node whose spare room is no longer spare.
func withSpare(n api.Node) api.Node {
	n.Kids = slices.Clone(n.Kids[:cap(n.Kids)])
	for i := range n.Kids {
		n.Kids[i] = withSpare(n.Kids[i])
	}
	return n
}

// Rule 4: what is answered is the caller's own.
func TestAnswersAreTheCallers(t *testing.T) {
	n := parsed(t, inMemory[0])
	calls := []func() []string{
		func() []string { return scope.Defines(n.Kids) },
		func() []string { return scope.Names(n.Kids) },
		func() []string { return scope.Free(n.Kids[1]) },
		func() []string { return scope.Free(n.Kids[2]) },
		func() []string { return scope.Defines(n.Kids[:1]) },
		func() []string { return scope.Names(n.Kids[2].Kids[:1]) },
	}
	for i, call := range calls {
		want := slices.Clone(call())
		if len(want) == 0 {
			t.Fatalf("call %d tells nothing", i)
		}
		one, other := call(), call()
		for j := range one[:cap(one)] {
			one[:cap(one)][j] = "overwritten"
		}
		if !slices.Equal(other, want) || !slices.Equal(call(), want) {
			t.Errorf("call %d: %v, %v, want %v", i, other, call(), want)
		}
	}
	names, free := scope.Defines(n.Kids), scope.Free(n.Kids[1])
	wantNames, wantFree := slices.Clone(names), slices.Clone(free)
	testkit.Overwrite(&n)
	if !slices.Equal(names, wantNames) || !slices.Equal(free, wantFree) {
		t.Errorf("an answer has changed with what was handed in: %v, %v", names, free)
	}
}

// Rule 8: one and the same answer in each of many calls.
func TestAnswersStay(t *testing.T) {
	n := expression(t, "[a, b, c, d, e, f, g, h, i, j, k, l, m, n, o, p, q, r, s, t, u, v, w, x, y, z]")
	for range 50 {
		checkNames(t, "again", scope.Free(n), "a b c d e f g h i j k l m n o p q r s t u v w x y z")
	}
}
