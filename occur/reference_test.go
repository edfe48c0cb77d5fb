package occur_test

import (
	"fmt"
	"math/rand"
	"slices"
	"strings"
	"testing"

	"thunkmill/api"
	"thunkmill/occur"
)

// place is where a variable stands: the way to it, part by part, and whether a lambda is on it.
type place struct {
	way   []string
	inLam bool
}

// placesIn are the places of a name in an expression.
func placesIn(e api.Expr, name string) []place {
	if slices.Contains(boundBy(e), name) {
		return nil
	}
	l := placesInScope(e, name)
	for i := range l {
		l[i].inLam = l[i].inLam || e.Kind == api.ExLam
	}
	return l
}

// placesInScope are those in all that an expression has, if it binds the name itself.
func placesInScope(e api.Expr, name string) []place {
	var l []place
	if e.Kind == api.ExVar && e.Name == name {
		l = append(l, place{})
	}
	in := func(step string, i int, e api.Expr) {
		for _, p := range placesIn(e, name) {
			l = append(l, place{append([]string{fmt.Sprint(step, i)}, p.way...), p.inLam})
		}
	}
	for i, b := range e.Binds {
		in("bind ", i, b.E)
	}
	for i, a := range e.Args {
		in("arg ", i, a)
	}
	for i, a := range e.Alts {
		if !slices.Contains(a.Vars, name) {
			in("alt ", i, a.E)
		}
	}
	return l
}

func boundBy(e api.Expr) []string {
	l := slices.Clone(e.Params)
	for _, b := range e.Binds {
		l = append(l, b.Name)
	}
	return l
}

// inDifferentAlternatives tells whether the ways to two places part in alternatives.
func inDifferentAlternatives(p, q place) bool {
	for i := range min(len(p.way), len(q.way)) {
		if p.way[i] != q.way[i] {
			return strings.HasPrefix(p.way[i], "alt") && strings.HasPrefix(q.way[i], "alt")
		}
	}
	return false
}

// occurrence is what the chapter says of places, each two of them held against each other.
func occurrence(l []place) int {
	switch {
	case len(l) == 0:
		return api.OccDead
	case len(l) == 1 && l[0].inLam:
		return api.OccLam
	case len(l) == 1:
		return api.OccOnce
	}
	for i, p := range l {
		for _, q := range l[:i] {
			if p.inLam || q.inLam || !inDifferentAlternatives(p, q) {
				return api.OccMany
			}
		}
	}
	return api.OccBranch
}

// binders are those of an expression, each asked for on its own.
func binders(e api.Expr) []api.Occ {
	var l []api.Occ
	for _, name := range boundBy(e) {
		l = append(l, api.Occ{Name: name, Occ: occurrence(placesInScope(e, name))})
	}
	for _, b := range e.Binds {
		l = append(l, binders(b.E)...)
	}
	for _, a := range e.Args {
		l = append(l, binders(a)...)
	}
	for _, a := range e.Alts {
		for _, name := range a.Vars {
			l = append(l, api.Occ{Name: name, Occ: occurrence(placesIn(a.E, name))})
		}
		l = append(l, binders(a.E)...)
	}
	return l
}

// tally counts how often each occurrence was told.
type tally map[string]int

// check holds all calls to the reference.
func (n tally) check(t *testing.T, e api.Expr, asked []string) {
	t.Helper()
	for _, name := range asked {
		places := placesIn(e, name)
		n["Of "+word(occurrence(places))]++
		ofIs(t, e, name, word(occurrence(places)))
		countIs(t, e, name, len(places))
	}
	want := binders(e)
	for _, o := range want {
		n["All "+word(o.Occ)]++
	}
	if got, err := occur.All(e); !slices.Equal(got, want) || err != api.OK {
		t.Errorf("All of %s: %s, error %d, want %s", brief(e), occText(got), err, occText(want))
	}
	if t.Failed() {
		t.FailNow() // what thousands of others answer would tell no more
	}
}

// enough asks for each occurrence to have been told often.
func (n tally) enough(t *testing.T, least int) {
	t.Helper()
	for _, call := range names("Of ", "All ") {
		for occ := api.OccDead; occ <= api.OccMany; occ++ {
			if what := call + word(occ); n[what] < least {
				t.Errorf("%s is told %d times alone", what, n[what])
			}
		}
	}
}

// P16.1, P16.2: expressions made by chance, as they may be.
func TestMade(t *testing.T) {
	make, n := byChance(161), tally{}
	for range 30000 {
		n.check(t, make.Expr(1+make.Chance.Intn(6)), names("x", "y", "z", "v1", "nowhere", ""))
	}
	n.enough(t, 100)
}

// inCases makes expressions of few names in which there are cases within cases, and few lambdas.
func inCases(r *rand.Rand, deep int) api.Expr {
	part := func() api.Expr { return inCases(r, deep-1) }
	if deep <= 1 {
		return []api.Expr{number(1), number(2), variable("x"), variable("y")}[r.Intn(4)]
	}
	switch r.Intn(12) {
	case 0:
		return api.Expr{Kind: api.ExApp, Args: list(part(), part())}
	case 1:
		return api.Expr{Kind: api.ExLet, Binds: []api.Bind{{Name: []string{"x", "a"}[r.Intn(2)], E: part()}}, Args: list(part())}
	case 2:
		return api.Expr{Kind: api.ExLam, Params: names([]string{"y", "a"}[r.Intn(2)]), Args: list(part())}
	case 3, 4:
		return inCases(r, 1)
	}
	e := api.Expr{Kind: api.ExCase, Args: list(inCases(r, 1+r.Intn(2)))}
	for i := range 1 + r.Intn(3) {
		e.Alts = append(e.Alts, api.Alt{Kind: api.AltInt, Num: int64(i), E: part()})
	}
	if r.Intn(2) == 0 {
		e.Alts = append(e.Alts, api.Alt{Kind: api.AltElse, Vars: names([]string{"x", "y", "a"}[r.Intn(3)]), E: part()})
	}
	return e
}

// P16.1: expressions with many cases, made by chance.
func TestMadeCases(t *testing.T) {
	r, n := rand.New(rand.NewSource(162)), tally{}
	for range 30000 {
		n.check(t, inCases(r, 1+r.Intn(5)), names("x", "y", "a"))
	}
	n.enough(t, 300)
}

// wild makes expressions that mostly may not be.
type wild struct {
	*rand.Rand
}

func (w wild) name() string { return []string{"x", "y", "", "a b"}[w.Intn(4)] }

func (w wild) names() []string {
	var l []string
	for w.Intn(4) == 0 {
		l = append(l, w.name())
	}
	return l
}

func (w wild) kind() int {
	if w.Intn(3) == 0 {
		return w.Intn(13) - 1
	}
	return []int{api.ExVar, api.ExVar, api.ExLam, api.ExCase, api.ExApp}[w.Intn(5)]
}

// few is how many parts there are of a sort: mostly none.
func (w wild) few() int { return max(0, w.Intn(6)-2) }

func (w wild) expr(deep int) api.Expr {
	e := api.Expr{Kind: w.kind(), Name: w.name(), Num: int64(w.Intn(3)), Params: w.names()}
	if deep <= 1 {
		return e
	}
	for range w.few() / 2 {
		e.Binds = append(e.Binds, api.Bind{Name: w.name(), E: w.expr(deep - 1)})
	}
	for range w.few() {
		e.Args = append(e.Args, w.expr(deep-1))
	}
	for range w.few() {
		e.Alts = append(e.Alts, api.Alt{Kind: w.Intn(7) - 1, Name: w.name(), Num: int64(w.Intn(3)), Vars: w.names(), E: w.expr(deep - 1)})
	}
	return e
}

// P16.1: expressions that may not be, made by chance.
func TestMadeWild(t *testing.T) {
	w, n := wild{rand.New(rand.NewSource(163))}, tally{}
	for range 30000 {
		n.check(t, w.expr(1+w.Intn(4)), names("x", "y", "", "a b", "nowhere"))
	}
	n.enough(t, 300)
}

// allSmall are all expressions of a few kinds that are nested at most so deep.
func allSmall(deep int) []api.Expr {
	l := list(number(1), variable("x"))
	if deep <= 1 {
		return l
	}
	parts := allSmall(deep - 1)
	for _, a := range parts {
		for _, name := range names("x", "y") {
			l = append(l, api.Expr{Kind: api.ExLam, Params: names(name), Args: list(a)})
		}
		for _, b := range parts {
			l = append(l, api.Expr{Kind: api.ExApp, Args: list(a, b)})
			for _, name := range names("x", "y") {
				l = append(l, api.Expr{Kind: api.ExLet, Binds: []api.Bind{{Name: name, E: a}}, Args: list(b)}, api.Expr{Kind: api.ExCase, Args: list(a), Alts: []api.Alt{{Kind: api.AltElse, Vars: names(name), E: b}}})
			}
			for _, c := range parts {
				l = append(l, api.Expr{Kind: api.ExCase, Args: list(a), Alts: []api.Alt{{Kind: api.AltInt, Num: 1, E: b}, {Kind: api.AltElse, E: c}}})
			}
		}
	}
	return l
}

// P16.1: all small expressions.
func TestAllSmall(t *testing.T) {
	n := tally{}
	for _, e := range allSmall(3) {
		n.check(t, e, names("x", "y"))
	}
	n.enough(t, 10)
}
