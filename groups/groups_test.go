package groups_test

import (
	"slices"
	"testing"

	"thunkmill/api"
	"thunkmill/groups"
)

// P11.1: the chapter's examples.
func TestExamples(t *testing.T) {
	checkGroups(t, "a: b; b: ; c: a", "1; 0; 2")
	checkGroups(t, "a: b; b: a; c: c", "0 1; 2")
	checkGroups(t, "a: c; b: ; c:", "1; 2; 0")
	checkWrong(t, "a name twice", told("a; a"), api.ErrArg)
}

// P11.1: names that use none, one, several others; chains.
func TestNoRings(t *testing.T) {
	checkGroups(t, "a:", "0")
	checkGroups(t, "a: ; b: ; c:", "0; 1; 2")
	checkGroups(t, "c: ; b: ; a:", "0; 1; 2") // places count, not the names' own order
	checkGroups(t, "a: b; b:", "1; 0")
	checkGroups(t, "a: ; b: a", "0; 1")
	checkGroups(t, "a: b c d; b: ; c: ; d:", "1; 2; 3; 0")
	checkGroups(t, "a: d c b; b: ; c: ; d:", "1; 2; 3; 0")
	checkGroups(t, "a: b c; b: d; c: d; d:", "3; 1; 2; 0")
	checkGroups(t, "a: b c; b: c; c: d; d:", "3; 2; 1; 0")
	checkGroups(t, "a: ; b: a; c: a b; d: a b c", "0; 1; 2; 3")
	checkGroups(t, "a: b; b: c; c: d; d: e; e:", "4; 3; 2; 1; 0")
	checkGroups(t, "a: ; b: a; c: b; d: c; e: d", "0; 1; 2; 3; 4")
	checkGroups(t, "a: c; b: e; c: b; d: ; e: d", "3; 4; 1; 2; 0")
}

// P11.1: names that use one another, over two steps and over many.
func TestRings(t *testing.T) {
	checkGroups(t, "a: b; b: a", "0 1")
	checkGroups(t, "a: b; b: c; c: a", "0 1 2")
	checkGroups(t, "a: c; b: a; c: b", "0 1 2")
	checkGroups(t, "a: b; b: c; c: d; d: e; e: f; f: a", "0 1 2 3 4 5")
	checkGroups(t, "a: d; b: f; c: b; d: e; e: c; f: a", "0 1 2 3 4 5")
	checkGroups(t, "a: b; b: a c; c: b", "0 1 2")         // two rings with a name in common
	checkGroups(t, "a: b; b: c; c: b d; d: a", "0 1 2 3") // a ring in a ring
	checkGroups(t, "a: b c; b: d; c: d; d: a", "0 1 2 3") // two ways round
	checkGroups(t, "a: b c d; b: a c d; c: a b d; d: a b c", "0 1 2 3")
	checkGroups(t, "a: b; b: c; c: b", "1 2; 0") // whoever leads to a ring is not in it
	checkGroups(t, "a: b; b: a c; c:", "2; 0 1") // nor whoever a ring leads to
	checkGroups(t, "a: b; b: c d; c: ; d: b", "2; 1 3; 0")
	checkGroups(t, "a: c; b: ; c: a", "0 2; 1")
}

// P11.1: several groups of several names, which hang on one another both ways round the list.
func TestSeveralGroups(t *testing.T) {
	checkGroups(t, "a: b; b: a; c: d; d: c", "0 1; 2 3")
	checkGroups(t, "a: b c; b: a; c: d; d: c", "2 3; 0 1")
	checkGroups(t, "a: b; b: a; c: d; d: c b", "0 1; 2 3")
	checkGroups(t, "a: c; b: d; c: a; d: b", "0 2; 1 3")
	checkGroups(t, "a: c d; b: d; c: a; d: b", "1 3; 0 2")
	checkGroups(t, "a: c; b: d; c: a; d: b c", "0 2; 1 3")
	checkGroups(t, "a: f; b: e; c: d; d: c; e: b; f: a", "0 5; 1 4; 2 3")
	checkGroups(t, "a: f b; b: e; c: d; d: c; e: b c; f: a", "2 3; 1 4; 0 5")
	checkGroups(t, "a: f; b: e; c: d b; d: c; e: b; f: a e", "1 4; 0 5; 2 3")
	checkGroups(t, "a: b; b: a c; c: d; d: e; e: f; f: e", "4 5; 3; 2; 0 1") // single names between groups
}

// P11.1: a name that uses itself is a group of its own, and waits for none.
func TestUsesItself(t *testing.T) {
	checkGroups(t, "a: a", "0")
	checkGroups(t, "a: a; b: b; c: c", "0; 1; 2")
	checkGroups(t, "a: a b; b: b", "1; 0")
	checkGroups(t, "a: a; b: b a", "0; 1")
	checkGroups(t, "a: a b; b: a b", "0 1")
	checkGroups(t, "a: a a a", "0")
}

// P11.1: uses that are not among the names count nothing; nor does it how often one name uses another.
func TestUsesThatCountNothing(t *testing.T) {
	checkGroups(t, "a: x; b: y x; c: a z", "0; 1; 2")
	checkGroups(t, "a: x b y; b: z", "1; 0")
	checkGroups(t, "a: x b; b: x; c: x a", "1; 0; 2") // x leads from none to none
	checkGroups(t, "a: b'; b: A a' aa", "0; 1")
	checkGroups(t, "a: b b b; b: ; c: a a b a", "1; 0; 2")
	checkGroups(t, "a: b b; b: a a a; c: b c b c a", "0 1; 2")
	checkGroups(t, "a: c b c b; b: c c; c: x x", "2; 1; 0")
}

// P11.1: any text may be a name, also an empty one.
func TestNames(t *testing.T) {
	d := defs{[]string{"", "a b", "ß\x00\xff", " "}, [][]string{{"a b"}, {"ß\x00\xff"}, {""}, {"", "  "}}}
	checkAll(t, "odd names", d, [][]int{{0, 1, 2}, {3}})
	checkAll(t, "an empty use", defs{[]string{"a", "b"}, [][]string{{""}, {"a"}}}, [][]int{{0}, {1}})
}

// P11.1: no names at all.
func TestNoNames(t *testing.T) {
	for _, d := range []defs{{}, {[]string{}, [][]string{}}, {nil, [][]string{}}, {[]string{}, nil}} {
		if l, e := groups.Of(d.names, d.uses); len(l) != 0 || e != api.OK {
			t.Errorf("Of = %v, %v", l, e)
		}
		if l, e := groups.Order(d.names, d.uses); len(l) != 0 || e != api.OK {
			t.Errorf("Order = %v, %v", l, e)
		}
	}
	// Lists that are nil and lists that are empty are the same.
	checkAll(t, "empty lists", defs{[]string{"a", "b"}, [][]string{{}, nil}}, [][]int{{0}, {1}})
}

// P11.1: whose turn it is: of the groups of which all that are ahead stand, the one with the lowest place.
func TestTurns(t *testing.T) {
	checkGroups(t, "a: b; b: ; c:", "1; 0; 2")                           // a becomes free behind c, and goes ahead of it
	checkGroups(t, "a: d; b: ; c: ; d: ; e:", "1; 2; 3; 0; 4")           // a waits for d, d for its turn
	checkGroups(t, "a: e; b: d; c: ; d: ; e:", "2; 3; 1; 4; 0")          // b, freed by d, ahead of e, which was free
	checkGroups(t, "a: b; b: c; c: ; d: ; e:", "2; 1; 0; 3; 4")          // one frees the next
	checkGroups(t, "a: d e; b: d; c: e; d: ; e:", "3; 1; 4; 0; 2")       // a waits for both
	checkGroups(t, "a: f; b: f; c: f; d: ; e: ; f:", "3; 4; 5; 0; 1; 2") // one frees several
	checkGroups(t, "a: e; b: d; c: ; d: b; e:", "1 3; 2; 4; 0")          // a group's lowest place, not its highest
	checkGroups(t, "a: f; b: f; c: e; d: ; e: c; f: b", "1 5; 0; 2 4; 3")
	checkGroups(t, "a: d; b: e; c: ; d: f; e: b; f: d", "1 4; 2; 3 5; 0")
	checkGroups(t, "a: c f; b: c; c: ; d: ; e: ; f: a", "2; 0 5; 1; 3; 4") // freed groups of several names
	checkGroups(t, "a: j; b: ; c: ; d: ; e: ; f: ; g: ; h: ; i: ; j: ; k:", "1; 2; 3; 4; 5; 6; 7; 8; 9; 0; 10")
	checkGroups(t, "a: b; b: d; c: d; d: ; e: f; f: h; g: h; h:", "3; 1; 0; 2; 7; 5; 4; 6")
}

// P11.1: a group's places rise, however its names are come to.
func TestPlacesRise(t *testing.T) {
	checkGroups(t, "a: c; b: a; c: b", "0 1 2")
	checkGroups(t, "a: e; b: a; c: b; d: c; e: d", "0 1 2 3 4")
	checkGroups(t, "a: ; b: f; c: ; d: b; e: d; f: e", "0; 1 3 4 5; 2")
	checkGroups(t, "a: d c b; b: a; c: a; d: a", "0 1 2 3")
}

// P11.1: not as many lists as names.
func TestNumbersOfLists(t *testing.T) {
	names := []string{"a", "b", "c"}
	for n := range 7 {
		if n != len(names) {
			checkWrong(t, "lists", defs{names, make([][]string, n)}, api.ErrArg)
		}
	}
	checkWrong(t, "no names", defs{nil, [][]string{nil}}, api.ErrArg)
	checkWrong(t, "no lists", defs{[]string{"a"}, nil}, api.ErrArg)
	checkWrong(t, "a list less", defs{names, [][]string{{"b"}, {"c"}}}, api.ErrArg)
	checkWrong(t, "a list more", defs{names, [][]string{{"b"}, {"c"}, {"a"}, {"a"}}}, api.ErrArg)
}

// P11.1: a name that stands twice.
func TestTwice(t *testing.T) {
	for _, text := range []string{"a; a", "a; b; a", "b; a; a", "a; a; b", "a: b; b: a; c: ; b: c", "a; a; a", "a: a; a: a", "a; b; c; d; e; d"} {
		checkWrong(t, text, told(text), api.ErrArg)
	}
	checkWrong(t, "the empty name twice", defs{[]string{"", "a", ""}, make([][]string, 3)}, api.ErrArg)
	checkWrong(t, "a name twice and lists for the others", defs{[]string{"a", "b", "a"}, make([][]string, 2)}, api.ErrArg)
	checkFine(t, "names that are much alike", told("a; A; a'; aa; _a"))
}

// P11.1: Self of a group of several places, of one, and of none.
func TestSelf(t *testing.T) {
	for _, x := range []struct {
		text  string
		group []int
		want  bool
	}{
		{"a: a", []int{0}, true},
		{"a:", []int{0}, false},
		{"a: b; b: a", []int{0, 1}, true},
		{"a: b; b: a", []int{1, 0}, true},
		{"a: b; b: a; c: c", []int{2}, true},
		{"a: b; b: a", []int{0}, false}, // it leans on itself, but uses another one
		{"a: ; b:", []int{0, 1}, true},  // several are enough, whatever they use
		{"a: ; b: ; c:", []int{2, 0, 1}, true},
		{"a: a; b: a", []int{1}, false}, // it uses another one that uses itself
		{"a: x b a; b: b", []int{0}, true},
		{"a: x b; b: b a", []int{0}, false},
		{"a: x b; b: a x b", []int{1}, true},
		{"a: A a' aa", []int{0}, false},
		{"a: a; b:", nil, false},
		{"a: a; b:", []int{}, false},
		{"", nil, false},
	} {
		checkSelf(t, told(x.text), x.group, x.want)
	}
	checkSelf(t, defs{[]string{""}, [][]string{{""}}}, []int{0}, true)
}

func checkSelf(t *testing.T, d defs, group []int, want bool) {
	t.Helper()
	if got := groups.Self(d.names, d.uses, group); got != want {
		t.Errorf("Self(%s, %s, %v) = %v, want %v", brief(d.names), brief(d.uses), group, got, want)
	}
}

// P11.1: Self of places that are none, alone and among others.
func TestSelfWrong(t *testing.T) {
	const least, most = -1 << 63, 1<<63 - 1
	d := told("a: a; b: b; c: c")
	for _, p := range []int{-1, -2, least, 3, 4, most} {
		for _, group := range [][]int{{p}, {p, p}, {0, p}, {p, 0}, {0, 1, 2, p}, {0, p, 2}} {
			checkSelf(t, d, group, false)
		}
	}
	fewerUses := defs{d.names, d.uses[:2]}
	fewerNames := defs{d.names[:2], d.uses}
	for _, d := range []defs{fewerUses, fewerNames} {
		for _, group := range [][]int{{2}, {0, 2}, {2, 0}, {0, 1, 2}, {2, 2}} {
			checkSelf(t, d, group, false)
		}
		checkSelf(t, d, []int{0, 1}, true)
		checkSelf(t, d, []int{1}, true)
	}
	for _, d := range []defs{{}, {names: d.names}, {uses: d.uses}} {
		checkSelf(t, d, []int{0}, false)
		checkSelf(t, d, []int{0, 1}, false)
		checkSelf(t, d, nil, false)
	}
}

// P11.1: Self tells of each group that Of told what the uses say.
func TestSelfOfGroups(t *testing.T) {
	d := told("a: b; b: a x; c: c b; d: c; e: x; f: f")
	l, _ := groups.Of(d.names, d.uses)
	var selves []bool
	for _, group := range l {
		selves = append(selves, groups.Self(d.names, d.uses, group))
	}
	if want := []bool{true, true, false, false, true}; !slices.Equal(selves, want) {
		t.Errorf("%v: %v, want %v", l, selves, want)
	}
}
