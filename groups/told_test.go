package groups_test

import (
	"fmt"
	"reflect"
	"slices"
	"strconv"
	"strings"
	"testing"

	"thunkmill/api"
	"thunkmill/groups"
)

// defs are names and their uses.
type defs struct {
	names []string
	uses  [][]string
}

// told reads definitions as the chapter writes them: "a: b c; b: ; c: a".
func told(text string) defs {
	var d defs
	for _, def := range parted(text) {
		name, used, _ := strings.Cut(def, ":")
		d.names = append(d.names, strings.TrimSpace(name))
		d.uses = append(d.uses, strings.Fields(used))
	}
	return d
}

func parted(text string) []string {
	if text == "" {
		return nil
	}
	return strings.Split(text, ";")
}

// groupText writes groups as the chapter does: "0 1; 2".
func groupText(l [][]int) string {
	var all []string
	for _, group := range l {
		var places []string
		for _, p := range group {
			places = append(places, strconv.Itoa(p))
		}
		all = append(all, strings.Join(places, " "))
	}
	return strings.Join(all, "; ")
}

// brief is what a failing test tells of a value, which may be great.
func brief(v any) string {
	text := fmt.Sprintf("%q", v)
	if len(text) > 300 {
		return text[:300] + " .."
	}
	return text
}

// checkGroups asks Of for groups, and Order for their names.
func checkGroups(t *testing.T, text, want string) {
	t.Helper()
	d := told(text)
	l, e := groups.Of(d.names, d.uses)
	if groupText(l) != want || e != api.OK {
		t.Errorf("Of(%s) = %s, %v, want %s", text, groupText(l), e, want)
	}
	checkOrder(t, d, l)
}

// checkOrder asks Order for the names of groups, one by one.
func checkOrder(t *testing.T, d defs, l [][]int) {
	t.Helper()
	var want []string
	for _, p := range slices.Concat(l...) {
		want = append(want, d.names[p])
	}
	if names, e := groups.Order(d.names, d.uses); !slices.Equal(names, want) || e != api.OK {
		t.Errorf("Order = %s, %v, want %s", brief(names), e, brief(want))
	}
}

// checkAll asks for groups, place by place, of definitions that no text is needed for.
func checkAll(t *testing.T, what string, d defs, want [][]int) {
	t.Helper()
	l, e := groups.Of(d.names, d.uses)
	if e != api.OK || !reflect.DeepEqual(l, want) {
		t.Errorf("%s: Of = %s, %v, want %s", what, brief(groupText(l)), e, brief(groupText(want)))
	}
	checkOrder(t, d, want)
}

// checkWrong asks both calls for an error, and for nothing beside it.
func checkWrong(t *testing.T, what string, d defs, want api.Errno) {
	t.Helper()
	if l, e := groups.Of(d.names, d.uses); len(l) != 0 || e != want {
		t.Errorf("%s: Of = %s, %v, want %v", what, brief(groupText(l)), e, want)
	}
	if l, e := groups.Order(d.names, d.uses); len(l) != 0 || e != want {
		t.Errorf("%s: Order = %s, %v, want %v", what, brief(l), e, want)
	}
}

// checkFine asks both calls for no error.
func checkFine(t *testing.T, what string, d defs) {
	t.Helper()
	l, e := groups.Of(d.names, d.uses)
	if e != api.OK {
		t.Errorf("%s: Of = %v", what, e)
	}
	checkOrder(t, d, l)
}

// numbered are the names v0, v1, .. with no uses.
func numbered(n int) defs {
	d := defs{uses: make([][]string, n)}
	for i := range n {
		d.names = append(d.names, nameOf(i))
	}
	return d
}

func nameOf(i int) string { return "v" + strconv.Itoa(i) }

// use adds uses of one of numbered names.
func (d defs) use(user int, used ...int) {
	for _, p := range used {
		d.uses[user] = append(d.uses[user], nameOf(p))
	}
}

// places are a group for each place from one to another, rising or falling.
func places(from, to int) [][]int {
	var l [][]int
	step := 1
	if to < from {
		step = -1
	}
	for p := from; p != to+step; p += step {
		l = append(l, []int{p})
	}
	return l
}

// span is one group of the places from one to another.
func span(from, to int) []int { return slices.Concat(places(from, to)...) }
