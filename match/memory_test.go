package match_test

import (
	"reflect"
	"slices"
	"testing"

	"thunkmill/api"
	"thunkmill/core"
	"thunkmill/match"
	"thunkmill/testkit"
)

const mark = "a mark"

// spared is a list with marked spare room.
func spared[T any](l []T, with T) []T {
	return append(slices.Grow(slices.Clone(l), 2), with, with)[:len(l)]
}

// spare is an expression in memory of its own whose lists have spare room, with marks in it.
func spare(e api.Expr) api.Expr {
	marked := api.Expr{Kind: -9, Name: mark}
	e.Params, e.Args = spared(e.Params, mark), spared(e.Args, marked)
	e.Binds, e.Alts = spared(e.Binds, api.Bind{Name: mark, E: marked}), spared(e.Alts, api.Alt{Name: mark, E: marked})
	for i := range e.Args {
		e.Args[i] = spare(e.Args[i])
	}
	for i := range e.Binds {
		e.Binds[i].E = spare(e.Binds[i].E)
	}
	for i := range e.Alts {
		e.Alts[i].Vars, e.Alts[i].E = spared(e.Alts[i].Vars, mark), spare(e.Alts[i].E)
	}
	return e
}

// whole is an expression with all spare room as parts of it, in memory of its own.
func whole(e api.Expr) api.Expr {
	e.Params, e.Args = slices.Clone(e.Params[:cap(e.Params)]), slices.Clone(e.Args[:cap(e.Args)])
	e.Binds, e.Alts = slices.Clone(e.Binds[:cap(e.Binds)]), slices.Clone(e.Alts[:cap(e.Alts)])
	for i := range e.Args {
		e.Args[i] = whole(e.Args[i])
	}
	for i := range e.Binds {
		e.Binds[i].E = whole(e.Binds[i].E)
	}
	for i := range e.Alts {
		e.Alts[i].Vars, e.Alts[i].E = slices.Clone(e.Alts[i].Vars[:cap(e.Alts[i].Vars)]), whole(e.Alts[i].E)
	}
	return e
}

// wholeNode is a node with all spare room as parts of it, in memory of its own.
func wholeNode(n api.Node) api.Node {
	n.Kids = slices.Clone(n.Kids[:cap(n.Kids)])
	for i := range n.Kids {
		n.Kids[i] = wholeNode(n.Kids[i])
	}
	return n
}

// overwrite changes all that can be reached of an expression.
func overwrite(e *api.Expr) {
	args, binds, alts := e.Args[:cap(e.Args)], e.Binds[:cap(e.Binds)], e.Alts[:cap(e.Alts)]
	for i := range args {
		overwrite(&args[i])
	}
	for i := range binds {
		overwrite(&binds[i].E)
		binds[i].Name = "overwritten"
	}
	for i := range alts {
		overwrite(&alts[i].E)
		overwriteNames(alts[i].Vars)
		alts[i].Kind, alts[i].Name, alts[i].Num = -5, "overwritten", -5
	}
	overwriteNames(e.Params)
	e.Kind, e.Name, e.Num = -5, "overwritten", -5
}

func overwriteNames(l []string) {
	for i := range l[:cap(l)] {
		l[:cap(l)][i] = "overwritten"
	}
}

// owned gathers where the items of all lists of an expression are, their spare room with them, and tells whether one of them is there already.
func owned(e *api.Expr, at map[any]bool) bool {
	ok := true
	own := func(p any) { ok = ok && !at[p]; at[p] = true }
	names := func(l []string) {
		for i := range l[:cap(l)] {
			own(&l[:cap(l)][i])
		}
	}
	args, binds, alts := e.Args[:cap(e.Args)], e.Binds[:cap(e.Binds)], e.Alts[:cap(e.Alts)]
	names(e.Params)
	for i := range args {
		own(&args[i])
		ok = owned(&args[i], at) && ok
	}
	for i := range binds {
		own(&binds[i])
		ok = owned(&binds[i].E, at) && ok
	}
	for i := range alts {
		own(&alts[i])
		names(alts[i].Vars)
		ok = owned(&alts[i].E, at) && ok
	}
	return ok
}

// question is what all calls are handed in a test.
type question struct {
	cons   []api.Con
	p      api.Node
	ok, no api.Expr
	vars   []string
	rows   []api.Row
}

// question is one by chance, with marked spare room.
func (m *maker) question(wrong bool) question {
	q := question{cons: spared(cons(), api.Con{Name: "Zoe"}), p: m.pattern(4), no: variable("no"), vars: spared([]string{"w", "v"}, "w")}
	q.ok = spare(m.comes(namesOf(q.p)))
	if m.Intn(2) == 0 {
		q.no = failure()
	}
	q.no = spare(q.no)
	q.rows = spared(m.rows(1+m.Intn(3), 2), api.Row{E: api.Expr{Kind: -9}})
	for i := range q.rows {
		q.rows[i].Pats = spared(q.rows[i].Pats, testkit.Marked())
		for k, p := range q.rows[i].Pats {
			if wrong {
				p = m.spoil(p)
			}
			q.rows[i].Pats[k] = testkit.Spare(p)
		}
		q.rows[i].E = spare(q.rows[i].E)
	}
	if wrong {
		q.p = m.spoil(q.p)
	}
	q.p = testkit.Spare(q.p)
	return q
}

// kept is a question with its spare room as parts of it, in memory of its own.
func (q question) kept() question {
	k := question{cons: slices.Clone(q.cons[:cap(q.cons)]), p: wholeNode(q.p), ok: whole(q.ok), no: whole(q.no), vars: slices.Clone(q.vars[:cap(q.vars)]), rows: slices.Clone(q.rows[:cap(q.rows)])}
	for i := range k.rows {
		k.rows[i].E = whole(k.rows[i].E)
		k.rows[i].Pats = slices.Clone(k.rows[i].Pats[:cap(k.rows[i].Pats)])
		for j := range k.rows[i].Pats {
			k.rows[i].Pats[j] = wholeNode(k.rows[i].Pats[j])
		}
	}
	return k
}

func (q question) overwrite() {
	for i := range q.cons[:cap(q.cons)] {
		q.cons[:cap(q.cons)][i] = api.Con{Name: "Overwritten"}
	}
	testkit.Overwrite(&q.p)
	overwrite(&q.ok)
	overwrite(&q.no)
	overwriteNames(q.vars)
	for _, r := range q.rows {
		for i := range r.Pats {
			testkit.Overwrite(&r.Pats[i])
		}
		overwrite(&r.E)
	}
}

// answers are those of all calls.
func (q question) answers() []api.Expr {
	pattern, _ := match.Pattern(q.cons, q.p, "w", q.ok, q.no)
	rows, _ := match.Rows(q.cons, q.vars, q.rows)
	function, _ := match.Function(q.cons, q.rows)
	return []api.Expr{pattern, rows, function, match.Failure(), match.Text("text")}
}

func texts(l []api.Expr) []string {
	var s []string
	for _, e := range l {
		s = append(s, core.Text(e))
	}
	return s
}

// Rule 4: what is handed in is as it was, its spare room too, with errors and without; no two answers, and no two lists of one, share memory; none heeds what becomes of what was handed in, or of another answer.
func TestMemory(t *testing.T) {
	m := &maker{Rand: seeded(4)}
	for i := range 1500 {
		q := m.question(i%3 == 0)
		before := q.kept()
		l := q.answers()
		if !reflect.DeepEqual(q.kept(), before) {
			t.Fatalf("what was handed in has changed: %v", q)
		}
		at := map[any]bool{}
		handed := []api.Expr{q.ok, q.no}
		for _, r := range q.rows {
			handed = append(handed, r.E)
		}
		for _, e := range append(handed, l...) {
			if !owned(&e, at) {
				t.Fatalf("lists share memory: %v", texts(l))
			}
		}
		want := texts(l)
		again := q.answers()
		if !slices.Equal(texts(again), want) {
			t.Fatalf("another answer: %v, want %v", texts(again), want)
		}
		for i := range again {
			overwrite(&again[i])
		}
		if !reflect.DeepEqual(q.kept(), before) {
			t.Fatalf("what was handed in heeds an answer: %v", q)
		}
		q.overwrite()
		if !slices.Equal(texts(l), want) {
			t.Fatalf("an answer heeds what was handed in: %v, want %v", texts(l), want)
		}
	}
}

// Rule 6: a nil list and an empty one are the same.
func TestEmptyLists(t *testing.T) {
	p := api.Node{Kind: api.NdPList, Kids: []api.Node{}}
	ok := api.Expr{Kind: api.ExVar, Name: "ok", Params: []string{}, Args: []api.Expr{}, Binds: []api.Bind{}, Alts: []api.Alt{}}
	got, e := match.Pattern([]api.Con{}, p, "w", ok, ok)
	checkSame(t, "empty lists", got, e, expr(t, "(case w of Nil -> ok; _ -> ok)"))
	got, e = match.Rows([]api.Con{}, []string{}, []api.Row{{Pats: []api.Node{}, E: ok}})
	checkSame(t, "empty lists", got, e, expr(t, "(let n = failure in ok)"))
	no := failure()
	no.Params, no.Args[0].Binds, no.Args[0].Alts = []string{}, []api.Bind{}, []api.Alt{}
	got, e = match.Pattern(nil, p, "w", ok, no)
	checkSame(t, "empty lists", got, e, expr(t, "(case w of Nil -> ok; _ -> failure)"))
}
