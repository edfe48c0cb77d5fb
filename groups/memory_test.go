package groups_test

import (
	"reflect"
	"slices"
	"testing"

	"thunkmill/api"
	"thunkmill/groups"
)

// inMemory are definitions with groups of one name and of several, and wrong ones.
var inMemory = []string{
	"", "a:", "a: b; b: ; c: a", "a: b; b: a; c: c", "a: f b x; b: e; c: d b; d: c; e: b; f: a e; g: ; h: g h", "a: b; b: c; c: a", "a: b; b: b; a: b",
}

const marked = "a mark"

// spared is a list with marked spare room.
func spared(l []string) []string {
	l = append(slices.Grow(slices.Clone(l), 3), marked, marked, marked)
	return l[:len(l)-3]
}

// spare are definitions whose lists have spare room: the names' and each list's marked, the list of lists' with a list of its own.
func spare(d defs) defs {
	uses := make([][]string, 0, len(d.uses)+2)
	for _, l := range d.uses {
		uses = append(uses, spared(l))
	}
	uses = append(uses, []string{marked}, []string{"a"})
	return defs{spared(d.names), uses[:len(d.uses)]}
}

// whole are copies of definitions whose spare room is no longer spare.
func whole(d defs) defs {
	all := defs{names: slices.Clone(d.names[:cap(d.names)])}
	for _, l := range d.uses[:cap(d.uses)] {
		all.uses = append(all.uses, slices.Clone(l[:cap(l)]))
	}
	return all
}

// overwrite changes all that can be reached of definitions.
func overwrite(d defs) {
	for i := range d.names[:cap(d.names)] {
		d.names[:cap(d.names)][i] = "overwritten"
	}
	for i, l := range d.uses[:cap(d.uses)] {
		for j := range l[:cap(l)] {
			l[:cap(l)][j] = "overwritten"
		}
		d.uses[:cap(d.uses)][i] = nil
	}
}

// Rule 4: what is handed in is as it was, and its spare room counts nothing.
func TestHandedInStays(t *testing.T) {
	for _, text := range inMemory {
		d := spare(told(text))
		before := whole(d)
		l, e := groups.Of(d.names, d.uses)
		if want, err := groups.Of(told(text).names, told(text).uses); e != err || groupText(l) != groupText(want) {
			t.Errorf("%s: Of = %v, %v, want %v, %v", text, l, e, want, err)
		}
		names, _ := groups.Order(d.names, d.uses)
		if want, _ := groups.Order(told(text).names, told(text).uses); !slices.Equal(names, want) {
			t.Errorf("%s: Order = %v, want %v", text, names, want)
		}
		group := append(make([]int, 0, 3), 1, 0, 0)
		groups.Self(d.names, d.uses, group[:1])
		groups.Self(d.names, d.uses, group[:2])
		if !slices.Equal(group, []int{1, 0, 0}) || !reflect.DeepEqual(whole(d), before) {
			t.Errorf("%s: what was handed in has changed", text)
		}
	}
}

// Rule 4: what is answered is the caller's own: later calls, other answers and what is handed in have no part in it.
func TestAnswersAreTheCallers(t *testing.T) {
	for _, text := range inMemory[1:6] {
		d := told(text)
		want, _ := groups.Of(d.names, d.uses)
		wantText := groupText(want)
		one, _ := groups.Of(d.names, d.uses)
		names, _ := groups.Order(d.names, d.uses)
		wantNames := slices.Clone(names)
		for i, group := range one[:cap(one)] {
			for j := range group[:cap(group)] {
				group[:cap(group)][j] = -1
			}
			one[:cap(one)][i] = nil
		}
		other, _ := groups.Order(d.names, d.uses)
		for i := range other[:cap(other)] {
			other[:cap(other)][i] = "overwritten"
		}
		overwrite(d)
		if groupText(want) != wantText || !slices.Equal(names, wantNames) {
			t.Errorf("%s: answers became %v, %v", text, want, names)
		}
		if again, e := groups.Of(told(text).names, told(text).uses); groupText(again) != wantText || e != api.OK {
			t.Errorf("%s: again: %v, %v", text, again, e)
		}
	}
}

// Rule 4: no two lists of one answer share memory, their spare room neither.
func TestGroupsShareNothing(t *testing.T) {
	for _, text := range inMemory[1:6] {
		d := told(text)
		l, _ := groups.Of(d.names, d.uses)
		want := groupText(l)
		for i, group := range l {
			before := slices.Clone(group)
			room := group[:cap(group)]
			for j := range room {
				room[j] = -7
			}
			for j, other := range l {
				if j != i && slices.Contains(other[:cap(other)], -7) {
					t.Errorf("%s: groups %d and %d share memory", text, i, j)
				}
			}
			clear(room)
			copy(room, before)
		}
		if groupText(l) != want {
			t.Errorf("%s: %v, want %v", text, l, want)
		}
	}
}

// Rule 8: one and the same answer in each of many calls.
func TestAnswersStay(t *testing.T) {
	d := made(seeded(115), 40, 60)
	want := groupText(reference(d))
	for range 100 {
		if l, _ := groups.Of(d.names, d.uses); groupText(l) != want {
			t.Fatalf("%v, want %s", l, want)
		}
	}
}
