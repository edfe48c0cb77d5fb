package desugar_test

import (
	"reflect"
	"slices"
	"testing"

	"thunkmill/api"
	"thunkmill/core"
	"thunkmill/desugar"
	"thunkmill/testkit"
)

// question is what all calls are handed in a test, with marked spare room.
type question struct {
	n, a, b api.Node
	cons    []api.Con
}

// question is one by chance, with a fault in it, or without.
func (m *maker) question(wrong bool) question {
	open := &maker{Rand: m.Rand, open: true, cons: cons()}
	q := question{n: open.expr(1+m.Intn(5), nil), a: m.program(1 + m.Intn(3)), b: m.program(1)}
	if wrong {
		for _, n := range []*api.Node{&q.n, &q.a, &q.b} {
			all := places(n)
			*all[m.Intn(len(all))] = pick(m, api.Node{}, named(api.NdVar, "unknown"), named(api.NdCon, "Zoe"), named(api.NdPCon, "B"), one(), node(api.NdOps, one(), named(api.NdOp, "+"), one()))
		}
	}
	q.n, q.a, q.b = testkit.Spare(q.n), testkit.Spare(q.a), testkit.Spare(q.b)
	q.cons = testkit.Spared(cons(), api.Con{Name: "Zoe"})
	return q
}

// kept is a question with its spare room as parts of it, in memory of its own.
func (q question) kept() question {
	return question{testkit.WholeNode(q.n), testkit.WholeNode(q.a), testkit.WholeNode(q.b), slices.Clone(q.cons[:cap(q.cons)])}
}

func (q question) overwrite() {
	for _, n := range []*api.Node{&q.n, &q.a, &q.b} {
		testkit.Overwrite(n)
	}
	overwriteCons(q.cons)
}

func overwriteCons(l []api.Con) {
	for i := range l[:cap(l)] {
		l[:cap(l)][i] = api.Con{Name: "Overwritten"}
	}
}

// answer is those of all calls.
type answer struct {
	e      api.Expr
	p      api.Prog
	joined api.Node
}

func (q question) answer() answer {
	var x answer
	x.e, _ = desugar.Expr(q.n, q.cons)
	x.p, _ = desugar.Program(q.a)
	x.joined, _ = desugar.Join(q.a, q.b)
	return x
}

// told is all of an answer as texts and as nodes of their own.
func (x answer) told() (string, string, api.Node) {
	return core.Text(x.e), core.ProgText(x.p), testkit.Copied(x.joined)
}

func (x answer) overwrite() {
	testkit.OverwriteExpr(&x.e)
	for i := range x.p.Binds[:cap(x.p.Binds)] {
		testkit.OverwriteExpr(&x.p.Binds[:cap(x.p.Binds)][i].E)
	}
	overwriteCons(x.p.Cons)
	testkit.Overwrite(&x.joined)
}

// own tells whether no two lists of questions and answers share memory.
func own(q question, l ...answer) bool {
	at := testkit.Memory{}
	ok := at.OwnNode(&q.n) && at.OwnNode(&q.a) && at.OwnNode(&q.b)
	for _, x := range l {
		whole := api.Expr{Binds: x.p.Binds}
		ok = ok && at.OwnExpr(&x.e) && at.OwnExpr(&whole) && at.OwnNode(&x.joined)
	}
	return ok
}

// Rule 4: what is handed in is as it was, its spare room too, with faults and without; no two answers, and no two lists of one, share memory; none heeds what becomes of what was handed in, or of another answer.
func TestMemory(t *testing.T) {
	m := &maker{Rand: seeded(4), cons: programCons()}
	for i := range 250 {
		q := m.question(i%3 == 0)
		before := q.kept()
		first, second := q.answer(), q.answer()
		if !reflect.DeepEqual(q.kept(), before) {
			t.Fatalf("what was handed in has changed: %v", q)
		}
		if !own(q, first, second) {
			t.Fatalf("lists share memory: %s, %s", core.Text(first.e), core.ProgText(first.p))
		}
		e, p, joined := first.told()
		again, alike, nodes := second.told()
		if again != e || alike != p || !sameNodes(nodes, joined) {
			t.Fatalf("another answer: %s, %s", again, alike)
		}
		second.overwrite()
		if !reflect.DeepEqual(q.kept(), before) {
			t.Fatalf("what was handed in heeds an answer: %v", q)
		}
		q.overwrite()
		if now, nowToo, nodes := first.told(); now != e || nowToo != p || !sameNodes(nodes, joined) {
			t.Fatalf("an answer heeds what was handed in: %s, %s", now, nowToo)
		}
	}
}

// Rule 6: a nil list and an empty one are the same.
func TestEmptyLists(t *testing.T) {
	n := api.Node{Kind: api.NdList, Kids: []api.Node{}}
	checkExpr(t, n, expr(t, "(Nil)"))
	checkExpr(t, api.Node{Kind: api.NdLet, Kids: []api.Node{{Kind: api.NdWhere, Kids: []api.Node{}}, {Kind: api.NdVar, Name: "x", Kids: []api.Node{}}}}, expr(t, "x"))
	checkFault(t, "no constructors", n, []api.Con{}, api.Fault{Err: api.ErrArg})
	checkProgramFault(t, "no declarations", api.Node{Kind: api.NdProgram, Kids: []api.Node{}}, api.Fault{Err: api.ErrMain})
	if got, e := desugar.Join(api.Node{Kind: api.NdProgram, Kids: []api.Node{}}, api.Node{Kind: api.NdProgram}); e != api.OK || got.Kind != api.NdProgram || len(got.Kids) != 0 {
		t.Errorf("%v, %v", got, e)
	}
}
