package shape_test

import (
	"reflect"
	"slices"
	"testing"

	"thunkmill/api"
	"thunkmill/shape"
	"thunkmill/testkit"
)

// overwrite changes all of a list, its spare room too.
func overwrite(l []api.Con) {
	l = l[:cap(l)]
	for i := range l {
		l[i] = api.Con{Name: "Overwritten", Arity: -5, Type: "Overwritten", Tag: -5}
	}
}

// Rule 4: what Builtin, Cons and Type answer is the caller's own.
func TestAnswersAreTheCallersOwn(t *testing.T) {
	n := parsed(t, "data Zoe = B x | A\ndata Ape = C\nf (B x) = C")
	want := with("Zoe=B/1,A/0 Ape=C/0")
	l := slices.Clone(want)
	for what, ask := range map[string]func() []api.Con{
		"Builtin":           shape.Builtin,
		"Cons":              func() []api.Con { l, _ := shape.Cons(n); return l },
		"Type":              func() []api.Con { return shape.Type(l, "A") },
		"Type of one alone": func() []api.Con { return shape.Type(l, "Unit") },
	} {
		kept, written := ask(), ask()
		was := slices.Clone(kept)
		overwrite(written)
		if !slices.Equal(kept, was) || !slices.Equal(ask(), was) {
			t.Errorf("%s: an answer heeds what is written into another: %v, %v", what, kept, ask())
		}
		if !slices.Equal(l, want) {
			t.Errorf("%s: what was handed in heeds the answer: %v", what, l)
		}
	}
	checkFault(t, "the program", n, api.Fault{})
	checkCons(t, "the program", n, want)
	checkCons(t, "no declaration", program(), builtin())
}

// Rule 4: answers do not heed what becomes of what was handed in.
func TestAnswersKeepNothing(t *testing.T) {
	n := parsed(t, "data Zoe = B x | A\ndata Ape = C\nf (B x) = C")
	got, _ := shape.Cons(n)
	testkit.Overwrite(&n)
	if !slices.Equal(got, with("Zoe=B/1,A/0 Ape=C/0")) {
		t.Errorf("what Cons answered heeds the tree: %v", got)
	}
	of := shape.Type(got, "A")
	overwrite(got)
	if !slices.Equal(of, cons("Zoe=B/1,A/0")) {
		t.Errorf("what Type answered heeds the list: %v", of)
	}
}

// Rule 4: trees are left as they were, their spare room too, whether they are right or wrong.
func TestTreesAreLeft(t *testing.T) {
	trees := []api.Node{program(), program(data(5, "Bool", "A")), program(data(5, "T", "A", "A")), data(5, "T", "A"), program(variable("x"))}
	for _, text := range []string{"data Zoe = B x | A\ndata Ape = C\nf (B x) = C", "f (Zoe x) = Zow", "data T = A x\nf (A x y) = [A, (1, Zoe)] where g [A] = 1"} {
		trees = append(trees, parsed(t, text))
	}
	for i, n := range trees {
		handed := testkit.Spare(n)
		shape.Cons(handed)
		shape.Check(handed)
		if !reflect.DeepEqual(testkit.Copied(handed), testkit.Copied(testkit.Spare(n))) {
			t.Errorf("tree %d is changed", i)
		}
		testkit.Each(&handed, func(n *api.Node) {
			for _, k := range n.Kids[len(n.Kids):cap(n.Kids)] {
				if !reflect.DeepEqual(k, testkit.Marked()) {
					t.Errorf("tree %d: spare room is written", i)
				}
			}
		})
	}
}

// Rule 4: lists are left as they were, and their spare room is neither read nor written.
func TestListsAreLeft(t *testing.T) {
	spare := []api.Con{con("Spare", 3, "T", -1), con("B", 9, "T", -2)}
	for _, l := range [][]api.Con{nil, builtin(), cons("T=C/0,A/1 U=B/1"), {con("A", 1, "T", 2), con("C", 1, "T", 1), con("A", 0, "T", 0)}} {
		room := append(slices.Clone(l), spare...)
		was := slices.Clone(room)
		for _, name := range []string{"A", "B", "C", "Spare", "Unit", ":", ""} {
			handed := room[:len(l)]
			c, ok := shape.Find(handed, name)
			of, only := shape.Type(handed, name), shape.Only(handed, name)
			if !slices.Equal(room, was) {
				t.Errorf("%q of %v: the list is changed: %v", name, l, room)
			}
			d, there := shape.Find(l, name)
			if c != d || ok != there || !slices.Equal(of, shape.Type(l, name)) || only != shape.Only(l, name) {
				t.Errorf("%q of %v: spare room is read: %v %v %v", name, l, c, of, only)
			}
		}
	}
}

// Rule 8: the same answers in each of many calls.
func TestAnswersStay(t *testing.T) {
	n := parsed(t, "data Z = A | B x\ndata Y = C x y\ndata X = D | E | F\ndata W = G\ndata V = H x")
	want := with("Z=A/0,B/1 Y=C/2 X=D/0,E/0,F/0 W=G/0 V=H/1")
	for range 50 {
		checkCons(t, "again", n, want)
		checkFind(t, want, "E", con("E", 0, "X", 1), cons("X=D/0,E/0,F/0"))
	}
}
