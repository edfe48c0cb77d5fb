package groups_test

import (
	"slices"
	"testing"

	"thunkmill/api"
	"thunkmill/groups"
)

// relation tells of each two places whether the one leans on the other.
type relation [][]bool

// leans finds it step by step: from uses, whatever goes over one more place.
func leans(d defs) relation {
	n := len(d.names)
	r := make(relation, n)
	for i := range n {
		r[i] = make([]bool, n)
		for j := range n {
			r[i][j] = slices.Contains(d.uses[i], d.names[j])
		}
	}
	for over := range n {
		for i := range n {
			for j := range n {
				r[i][j] = r[i][j] || r[i][over] && r[over][j]
			}
		}
	}
	return r
}

// together tells whether two places stand in one group.
func (r relation) together(i, j int) bool { return i == j || r[i][j] && r[j][i] }

func (r relation) groupOf(i int) []int {
	var group []int
	for j := range r {
		if r.together(i, j) {
			group = append(group, j)
		}
	}
	return group
}

// free tells whether all groups that are ahead of a place's own stand.
func (r relation) free(i int, stands []bool) bool {
	for j := range r {
		if r[i][j] && !r.together(i, j) && !stands[j] {
			return false
		}
	}
	return true
}

// reference finds the groups as the chapter's words say: each time the first place that may stand, with all that stand together with it.
func reference(d defs) [][]int {
	r := leans(d)
	stands := make([]bool, len(d.names))
	var all [][]int
	for slices.Contains(stands, false) {
		for i := range stands {
			if stands[i] || !r.free(i, stands) {
				continue
			}
			group := r.groupOf(i)
			for _, j := range group {
				stands[j] = true
			}
			all = append(all, group)
			break
		}
	}
	return all
}

// checkReference holds the calls against the reference, and against what P11.2 says in words.
func checkReference(t *testing.T, d defs) {
	t.Helper()
	want := reference(d)
	l, e := groups.Of(d.names, d.uses)
	if e != api.OK || groupText(l) != groupText(want) {
		t.Fatalf("Of(%s, %s) = %s, %v, want %s", brief(d.names), brief(d.uses), groupText(l), e, groupText(want))
	}
	checkOrder(t, d, want)
	checkOnce(t, d, l)
	checkLeans(t, d, l)
	checkSelves(t, d, l)
	if t.Failed() {
		t.FailNow() // what thousands of others answer would tell no more
	}
}

// checkOnce asks for each place once.
func checkOnce(t *testing.T, d defs, l [][]int) {
	t.Helper()
	all := slices.Concat(l...)
	slices.Sort(all)
	for i, p := range all {
		if i != p {
			t.Fatalf("place %d of %s is %d", i, brief(groupText(l)), p)
		}
	}
	if len(all) != len(d.names) {
		t.Fatalf("%d places of %d names", len(all), len(d.names))
	}
}

// checkLeans asks who stands in a group to lean on its names and on those ahead alone, and on all of its own.
func checkLeans(t *testing.T, d defs, l [][]int) {
	t.Helper()
	known := map[string]int{}
	for p, name := range d.names {
		known[name] = p
	}
	var ahead []int
	for _, group := range l {
		for _, p := range group {
			reached := reachedFrom(p, d, known)
			if len(group) > 1 && !containsAll(reached, group) {
				t.Fatalf("%s, %s: %v could be parted", brief(d.names), brief(d.uses), group)
			}
			if !containsAll(slices.Concat(ahead, group), reached) {
				t.Fatalf("%s, %s: %d leans on %v, ahead are %v", brief(d.names), brief(d.uses), p, reached, ahead)
			}
		}
		ahead = append(ahead, group...)
	}
}

// reachedFrom are the places that a place leans on, found by going along its uses.
func reachedFrom(p int, d defs, known map[string]int) []int {
	var reached []int
	todo := []int{p}
	for len(todo) > 0 {
		from := todo[0]
		todo = todo[1:]
		for _, name := range d.uses[from] {
			if q, ok := known[name]; ok && !slices.Contains(reached, q) {
				reached = append(reached, q)
				todo = append(todo, q)
			}
		}
	}
	return reached
}

func containsAll(l, part []int) bool {
	for _, p := range part {
		if !slices.Contains(l, p) {
			return false
		}
	}
	return true
}

// checkSelves asks Self of each group whether one of it leans on itself: of groups that Of tells this is the same.
func checkSelves(t *testing.T, d defs, l [][]int) {
	t.Helper()
	r := leans(d)
	for _, group := range l {
		checkSelf(t, d, group, r[group[0]][group[0]])
	}
}
