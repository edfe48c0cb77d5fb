package match_test

import (
	"reflect"
	"slices"
	"testing"

	"thunkmill/api"
	"thunkmill/core"
	"thunkmill/match"
	"thunkmill/testkit"
)

// question is what all calls are handed in a test.
type question struct {
	cons   []api.Con
	p      api.Node
	ok, no api.Expr
	vars   []string
	rows   []api.Row
}

// question is one by chance, with marked spare room.
func (m *maker) question(wrong bool) question {
	q := question{cons: testkit.Spared(cons(), api.Con{Name: "Zoe"}), p: m.pattern(4), no: variable("no"), vars: testkit.Spared([]string{"w", "v"}, "w")}
	q.ok = testkit.SpareExpr(m.comes(namesOf(q.p)))
	if m.Intn(2) == 0 {
		q.no = failure()
	}
	q.no = testkit.SpareExpr(q.no)
	q.rows = testkit.Spared(m.rows(1+m.Intn(3), 2), api.Row{E: api.Expr{Kind: -9}})
	for i := range q.rows {
		q.rows[i].Pats = testkit.Spared(q.rows[i].Pats, testkit.Marked())
		for k, p := range q.rows[i].Pats {
			if wrong {
				p = m.spoil(p)
			}
			q.rows[i].Pats[k] = testkit.Spare(p)
		}
		q.rows[i].E = testkit.SpareExpr(q.rows[i].E)
	}
	if wrong {
		q.p = m.spoil(q.p)
	}
	q.p = testkit.Spare(q.p)
	return q
}

// kept is a question with its spare room as parts of it, in memory of its own.
func (q question) kept() question {
	k := question{cons: slices.Clone(q.cons[:cap(q.cons)]), p: testkit.WholeNode(q.p), ok: testkit.WholeExpr(q.ok), no: testkit.WholeExpr(q.no), vars: slices.Clone(q.vars[:cap(q.vars)]), rows: slices.Clone(q.rows[:cap(q.rows)])}
	for i := range k.rows {
		k.rows[i].E = testkit.WholeExpr(k.rows[i].E)
		k.rows[i].Pats = slices.Clone(k.rows[i].Pats[:cap(k.rows[i].Pats)])
		for j := range k.rows[i].Pats {
			k.rows[i].Pats[j] = testkit.WholeNode(k.rows[i].Pats[j])
		}
	}
	return k
}

func (q question) overwrite() {
	for i := range q.cons[:cap(q.cons)] {
		q.cons[:cap(q.cons)][i] = api.Con{Name: "Overwritten"}
	}
	testkit.Overwrite(&q.p)
	testkit.OverwriteExpr(&q.ok)
	testkit.OverwriteExpr(&q.no)
	testkit.OverwriteNames(q.vars)
	for _, r := range q.rows {
		for i := range r.Pats {
			testkit.Overwrite(&r.Pats[i])
		}
		testkit.OverwriteExpr(&r.E)
	}
}

// answers are those of all calls.
func (q question) answers() []api.Expr {
	pattern, _ := match.Pattern(q.cons, q.p, "w", q.ok, q.no)
	rows, _ := match.Rows(q.cons, q.vars, q.rows)
	function, _ := match.Function(q.cons, q.rows)
	return []api.Expr{pattern, rows, function, match.Failure(), match.Text("text")}
}

func texts(l []api.Expr) []string {
	var s []string
	for _, e := range l {
		s = append(s, core.Text(e))
	}
	return s
}

// Rule 4: what is handed in is as it was, its spare room too, with errors and without; no two answers, and no two lists of one, share memory; none heeds what becomes of what was handed in, or of another answer.
func TestMemory(t *testing.T) {
	m := &maker{Rand: seeded(4)}
	for i := range 1500 {
		q := m.question(i%3 == 0)
		before := q.kept()
		l := q.answers()
		if !reflect.DeepEqual(q.kept(), before) {
			t.Fatalf("what was handed in has changed: %v", q)
		}
		at := testkit.Memory{}
		handed := []api.Expr{q.ok, q.no}
		for _, r := range q.rows {
			handed = append(handed, r.E)
		}
		for _, e := range append(handed, l...) {
			if !at.OwnExpr(&e) {
				t.Fatalf("lists share memory: %v", texts(l))
			}
		}
		want := texts(l)
		again := q.answers()
		if !slices.Equal(texts(again), want) {
			t.Fatalf("another answer: %v, want %v", texts(again), want)
		}
		for i := range again {
			testkit.OverwriteExpr(&again[i])
		}
		if !reflect.DeepEqual(q.kept(), before) {
			t.Fatalf("what was handed in heeds an answer: %v", q)
		}
		q.overwrite()
		if !slices.Equal(texts(l), want) {
			t.Fatalf("an answer heeds what was handed in: %v, want %v", texts(l), want)
		}
	}
}

// Rule 6: a nil list and an empty one are the same.
func TestEmptyLists(t *testing.T) {
	p := api.Node{Kind: api.NdPList, Kids: []api.Node{}}
	ok := api.Expr{Kind: api.ExVar, Name: "ok", Params: []string{}, Args: []api.Expr{}, Binds: []api.Bind{}, Alts: []api.Alt{}}
	got, e := match.Pattern([]api.Con{}, p, "w", ok, ok)
	checkSame(t, "empty lists", got, e, expr(t, "(case w of Nil -> ok; _ -> ok)"))
	got, e = match.Rows([]api.Con{}, []string{}, []api.Row{{Pats: []api.Node{}, E: ok}})
	checkSame(t, "empty lists", got, e, expr(t, "(let n = failure in ok)"))
	no := failure()
	no.Params, no.Args[0].Binds, no.Args[0].Alts = []string{}, []api.Bind{}, []api.Alt{}
	got, e = match.Pattern(nil, p, "w", ok, no)
	checkSame(t, "empty lists", got, e, expr(t, "(case w of Nil -> ok; _ -> failure)"))
}
