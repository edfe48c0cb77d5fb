package groups_test

import (
	"runtime/debug"
	"slices"
	"testing"
	"time"

	"thunkmill/api"
	"thunkmill/groups"
)

const mostUses = 200000

// shallow lets no goroutine have a stack that many nested calls would need, while a test runs.
func shallow(t *testing.T) {
	before := debug.SetMaxStack(1 << 18)
	t.Cleanup(func() { debug.SetMaxStack(before) })
}

// P11.1: a chain of MaxGroup names, both ways round, and one whose places are mixed up.
func TestGreatChains(t *testing.T) {
	shallow(t)
	n := api.MaxGroup
	onward, back, leaping := numbered(n), numbered(n), numbered(n)
	for i := range n - 1 {
		onward.use(i, i+1)
		back.use(i+1, i)
		leaping.use(i*7%n, (i+1)*7%n)
	}
	checkAll(t, "each uses the next", onward, places(n-1, 0))
	checkAll(t, "each uses the last", back, places(0, n-1))
	var want [][]int
	for i := n - 1; i >= 0; i-- {
		want = append(want, []int{i * 7 % n})
	}
	checkAll(t, "each uses one far away", leaping, want)
}

// P11.1: a ring of MaxGroup names, both ways round, and rings behind a chain.
func TestGreatRings(t *testing.T) {
	shallow(t)
	n := api.MaxGroup
	onward, back, leaping, half := numbered(n), numbered(n), numbered(n), numbered(n)
	for i := range n {
		onward.use(i, (i+1)%n)
		back.use((i+1)%n, i)
		leaping.use(i*7%n, (i+1)*7%n)
		if i < n-1 {
			half.use(i, i+1)
		}
	}
	half.use(n-1, n/2)
	checkAll(t, "each uses the next", onward, [][]int{span(0, n-1)})
	checkAll(t, "each uses the last", back, [][]int{span(0, n-1)})
	checkAll(t, "each uses one far away", leaping, [][]int{span(0, n-1)})
	checkAll(t, "a ring behind a chain", half, append([][]int{span(n/2, n-1)}, places(n/2-1, 0)...))
	if !groups.Self(onward.names, onward.uses, span(0, n-1)) {
		t.Error("Self of a ring is false")
	}
	if groups.Self(onward.names, onward.uses, []int{n - 1}) {
		t.Error("Self of one name of a ring is true")
	}
}

// P11.1: MaxGroup names, and one more.
func TestMostNames(t *testing.T) {
	checkAll(t, "names without uses", numbered(api.MaxGroup), places(0, api.MaxGroup-1))
	checkWrong(t, "one more", numbered(api.MaxGroup+1), api.ErrLong)
	checkWrong(t, "many more", numbered(3*api.MaxGroup), api.ErrLong)
}

// P11.1: 200,000 uses in all, and one more: one list's, many lists', of one name, of others, of names that are none.
func TestMostUses(t *testing.T) {
	one := told("a: b; b: ; c: b")
	for _, name := range []string{"a", "b", "c", "x"} {
		d := defs{one.names, [][]string{nil, slices.Repeat([]string{name}, mostUses), nil}}
		checkReference(t, d)
		d.uses[2] = []string{name}
		checkWrong(t, "one more in another list", d, api.ErrLong)
		d.uses[2], d.uses[1] = nil, append(d.uses[1], name)
		checkWrong(t, "one more in this list", d, api.ErrLong)
	}
	for _, leap := range []int{1, 6007} {
		d := numbered(api.MaxGroup)
		for i := range mostUses {
			d.use(i%api.MaxGroup, (i+i/api.MaxGroup*leap)%api.MaxGroup)
		}
		checkAll(t, "ten uses for each", d, [][]int{span(0, api.MaxGroup-1)})
		d.use(17, 18)
		checkWrong(t, "one use more", d, api.ErrLong)
		checkFine(t, "one less in another list", defs{d.names, append([][]string{d.uses[0][1:]}, d.uses[1:]...)})
	}
}

// P11.1: ErrLong ahead of ErrArg, where both would be.
func TestLongAheadOfArg(t *testing.T) {
	many := numbered(api.MaxGroup + 1)
	uses := [][]string{slices.Repeat([]string{"a"}, mostUses+1)}
	twice := slices.Clone(many.names)
	twice[api.MaxGroup] = twice[0]
	for _, d := range []defs{
		{many.names, nil}, {many.names, many.uses[1:]}, {many.names, make([][]string, api.MaxGroup+2)}, {twice, many.uses}, {slices.Repeat([]string{"a"}, api.MaxGroup+1), many.uses},
		{nil, uses}, {[]string{"a", "b"}, uses}, {[]string{"a", "a"}, append(uses, nil)}, {[]string{"a"}, append(uses, nil)}, {[]string{"a"}, append([][]string{nil}, uses...)},
		{many.names, uses},
	} {
		checkWrong(t, "long and wrong", d, api.ErrLong)
	}
	// At the limits what is wrong is no longer too long.
	most := numbered(api.MaxGroup)
	twice = slices.Clone(most.names)
	twice[api.MaxGroup-1] = twice[0]
	for _, d := range []defs{{most.names, nil}, {twice, most.uses}, {most.names, many.uses}, {nil, [][]string{uses[0][1:]}}, {[]string{"a", "a"}, [][]string{uses[0][1:], nil}}} {
		checkWrong(t, "wrong", d, api.ErrArg)
	}
	// There may be more lists than names may be: that is no ErrLong.
	checkWrong(t, "many lists", defs{most.names, make([][]string, 10*api.MaxGroup)}, api.ErrArg)
}

// P11.1: as many names and uses as there may be, in shapes in which looking for a turn, or for a group's end, among all of them would take minutes.
func TestGreatShapes(t *testing.T) {
	began := time.Now()
	n := api.MaxGroup
	star, turned, falling := numbered(n), numbered(n), numbered(n)
	for i := 1; i < n; i++ {
		star.use(0, i)
		turned.use(i, 0)
		falling.use(i-1, slices.Concat(span(n-1, max(n-5, i)), span(i, min(i+4, n-1)))...)
	}
	checkAll(t, "one uses all", star, append(places(1, n-1), []int{0}))
	checkAll(t, "all use one", turned, places(0, n-1))
	checkAll(t, "each uses the next and the last ones", falling, places(n-1, 0))
	chance := seeded(114)
	for _, uses := range []int{n / 2, n, 2 * n, mostUses} {
		d := made(chance, n, uses)
		l, e := groups.Of(d.names, d.uses)
		if e != api.OK {
			t.Fatalf("%d uses: %v", uses, e)
		}
		checkOnce(t, d, l)
		checkAhead(t, d, l)
		checkOrder(t, d, l)
	}
	if took := time.Since(began); took > time.Minute {
		t.Errorf("it took %v", took)
	}
}

// checkAhead asks for uses that lead to the user's own group and to those ahead alone, and for places that rise.
func checkAhead(t *testing.T, d defs, l [][]int) {
	t.Helper()
	turn := map[string]int{}
	for i, group := range l {
		for _, p := range group {
			turn[d.names[p]] = i
		}
		if !slices.IsSorted(group) {
			t.Fatalf("group %d of %d places does not rise", i, len(group))
		}
	}
	for p, used := range d.uses {
		for _, name := range used {
			if i, ok := turn[name]; ok && i > turn[d.names[p]] {
				t.Fatalf("%s stands ahead of %s, which it uses", d.names[p], name)
			}
		}
	}
}
