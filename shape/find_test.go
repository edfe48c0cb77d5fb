package shape_test

import (
	"math"
	"slices"
	"testing"

	"thunkmill/api"
	"thunkmill/shape"
)

// checkFind asks for what Find, Type and Only tell of a name: that constructor, and all of its type; none, if these are none.
func checkFind(t *testing.T, l []api.Con, name string, want api.Con, of []api.Con) {
	t.Helper()
	if got, ok := shape.Find(l, name); got != want || ok != (len(of) > 0) {
		t.Errorf("Find(%v, %q) = %v, %v, want %v", l, name, got, ok, want)
	}
	if got := shape.Type(l, name); !slices.Equal(got, of) {
		t.Errorf("Type(%v, %q) = %v, want %v", l, name, got, of)
	}
	if got := shape.Only(l, name); got != (len(of) == 1) {
		t.Errorf("Only(%v, %q) = %v", l, name, got)
	}
}

// P9.2: each built-in constructor, in the built-in list and in a program's.
func TestFindOfBuiltin(t *testing.T) {
	own, f := shape.Cons(parsed(t, "data Zoe = A x | B\ndata Ape = C\nf (A x) = C"))
	if f != (api.Fault{}) {
		t.Fatal(f)
	}
	b := builtin()
	for _, l := range [][]api.Con{builtin(), shape.Builtin(), own} {
		checkFind(t, l, "False", b[0], b[0:2])
		checkFind(t, l, "True", b[1], b[0:2])
		checkFind(t, l, "Nil", b[2], b[2:4])
		checkFind(t, l, "Cons", b[3], b[2:4])
		checkFind(t, l, ":", b[3], b[2:4])
		checkFind(t, l, "Tup2", b[4], b[4:5])
		checkFind(t, l, "Tup3", b[5], b[5:6])
		checkFind(t, l, "Tup4", b[6], b[6:7])
		checkFind(t, l, "Unit", b[7], b[7:8])
	}
	if !shape.Only(own, "Unit") || !shape.Only(own, "Tup2") || shape.Only(own, "True") || shape.Only(own, ":") {
		t.Errorf("Only of Unit, Tup2, True, : is wrong")
	}
}

// P9.2: each of a program's own.
func TestFindOfOwn(t *testing.T) {
	l, f := shape.Cons(parsed(t, "data Zoe = B x | A\ndata T = T x y z | U\ndata U = Bool x\ndata Ape = F | E | D | C"))
	if f != (api.Fault{}) {
		t.Fatal(f)
	}
	for _, text := range []string{"Zoe=B/1,A/0", "T=T/3,U/0", "U=Bool/1", "Ape=F/0,E/0,D/0,C/0"} {
		of := cons(text)
		for _, c := range of {
			checkFind(t, l, c.Name, c, of)
		}
	}
}

// P9.2: names that are no constructor's.
func TestFindOfNone(t *testing.T) {
	l := with("T=A/2,B/0 U=C/1")
	for _, name := range []string{"", "T", "Zoe", "Bool", "List", "a", "A ", " A", "::", ":+", "Tup", "Tup1", "Tup5", "cons", "CONS", "[]", "()", "A\x00", "\xff"} {
		checkFind(t, l, name, api.Con{}, nil)
		checkFind(t, nil, name, api.Con{}, nil)
		checkFind(t, []api.Con{}, name, api.Con{}, nil)
	}
	checkFind(t, nil, ":", api.Con{}, nil)
	checkFind(t, cons("T=A/2"), ":", api.Con{}, nil)
	checkFind(t, l[:0], "A", api.Con{}, nil)         // spare room is no part of a list
	checkFind(t, builtin()[:3], ":", api.Con{}, nil) // likewise
}

func con(name string, arity int, of string, tag int) api.Con {
	return api.Con{Name: name, Arity: arity, Type: of, Tag: tag}
}

// P9.2: lists that no program has.
func TestFindInOddLists(t *testing.T) {
	// A name twice, of one type, of two: the first one counts.
	one := []api.Con{con("A", 1, "T", 0), con("B", 2, "T", 1), con("A", 3, "T", 2)}
	checkFind(t, one, "A", one[0], one)
	checkFind(t, one, "B", one[1], one)
	two := []api.Con{con("B", 0, "U", 0), con("A", 1, "U", 1), con("A", 2, "T", 0), con("C", 0, "T", 1)}
	checkFind(t, two, "A", two[1], two[:2])
	checkFind(t, two, "C", two[3], two[2:])
	checkFind(t, two[2:], "A", two[2], two[2:])
	lone := []api.Con{con("A", 1, "T", 5), con("A", 2, "U", 0)}
	checkFind(t, lone, "A", lone[0], lone[:1])
	again := []api.Con{con("A", 1, "T", 0), con("A", 1, "T", 0)}
	checkFind(t, again, "A", again[0], again)

	// Tags in no order, not from 0 on, below 0, the same ones: then the first in the list counts.
	odd := []api.Con{con("A", 0, "T", 7), con("X", 0, "U", 1), con("B", 0, "T", math.MinInt), con("C", 0, "T", -1), con("Y", 0, "U", 0), con("D", 0, "T", math.MaxInt), con("E", 0, "T", 3), con("F", 0, "T", -1), con("G", 0, "T", 7)}
	byTag := []api.Con{odd[2], odd[3], odd[7], odd[6], odd[0], odd[8], odd[5]}
	for _, i := range []int{0, 2, 3, 5, 6, 7, 8} {
		checkFind(t, odd, odd[i].Name, odd[i], byTag)
	}
	checkFind(t, odd, "X", odd[1], []api.Con{odd[4], odd[1]})

	// : is the one with the name Cons, whatever it is; one with the name : is none.
	colon := []api.Con{con(":", 1, "T", 0), con("Cons", 9, "U", 1), con("Nil", 0, "U", 0), con("Cons", 2, "List", 1)}
	checkFind(t, colon, ":", colon[1], []api.Con{colon[2], colon[1]})
	checkFind(t, colon, "Cons", colon[1], []api.Con{colon[2], colon[1]})
	checkFind(t, colon[:1], ":", api.Con{}, nil)

	// Fields that no constructor has.
	none := []api.Con{{}, con("", 5, "T", 0), con("A", -3, "", 4), con("\xff", math.MaxInt, "T", 0)}
	checkFind(t, none, "", none[0], []api.Con{none[0], none[2]})
	checkFind(t, none, "A", none[2], []api.Con{none[0], none[2]})
	checkFind(t, none, "\xff", none[3], []api.Con{none[1], none[3]})
	checkFind(t, none[1:2], "", none[1], none[1:2])
}

// A long type whose Tags fall comes by rising Tags, those that are the same as they stood.
func TestTypeOfManyTags(t *testing.T) {
	var l, want []api.Con
	for i := range 1000 {
		l = append(l, con("A", i, "T", 10-i/100), con("B", i, "U", i))
	}
	for tag := 1; tag <= 10; tag++ {
		for i := range 100 {
			want = append(want, con("A", (10-tag)*100+i, "T", tag))
		}
	}
	checkFind(t, l, "A", l[0], want)
}
