package desugar_test

import (
	"slices"
	"strconv"
	"testing"

	"thunkmill/api"
	"thunkmill/core"
	"thunkmill/desugar"
	"thunkmill/syntax"
)

// seenIn counts the kinds of nodes that a tree has, and the sections of constructors that are none.
func (c counted) seenIn(n api.Node) {
	for _, k := range places(&n) {
		c[strconv.Itoa(k.Kind)]++
		if slices.Contains(unknown(), k.Name) {
			c[k.Name+strconv.Itoa(k.Kind)]++
		}
	}
}

// P13.1: expressions made by chance are the reference's, and may be.
func TestMadeExpressions(t *testing.T) {
	m := &maker{Rand: seeded(131), open: true, cons: cons()}
	seen := counted{}
	for range 2500 {
		n := m.expr(1+m.Intn(5), nil)
		if e := syntax.Check(n); e != api.OK {
			t.Fatalf("syntax says %v of %v", e, n)
		}
		r := &reference{cons: cons()}
		checkExpr(t, n, r.expr(n, nil))
		if t.Failed() {
			t.FailNow()
		}
		seen.seenIn(n)
	}
	for _, kind := range []int{api.NdEqn, api.NdBind, api.NdRhs, api.NdGuard, api.NdWhere, api.NdVar, api.NdCon, api.NdInt, api.NdChar, api.NdString, api.NdApp, api.NdNeg, api.NdLam, api.NdLet, api.NdIf, api.NdCase, api.NdAlt, api.NdDo, api.NdTuple, api.NdList, api.NdComp, api.NdLeft, api.NdRight, api.NdParen, api.NdGen, api.NdLets, api.NdStmt, api.NdPVar, api.NdPAny, api.NdPInt, api.NdPChar, api.NdPString, api.NdPCon, api.NdPTuple, api.NdPList, api.NdPAs, api.NdPLazy} {
		seen.least(t, map[string]int{strconv.Itoa(kind): 450})
	}
	for _, name := range unknown() {
		seen.least(t, map[string]int{name + strconv.Itoa(api.NdLeft): 30, name + strconv.Itoa(api.NdRight): 30})
	}
}

// programCons are the constructors that a program may have: none of its own is an operator.
func programCons() []api.Con {
	return slices.DeleteFunc(cons(), func(c api.Con) bool { return c.Name == ":+" })
}

// P13.2, P13.4: programs made by chance are the reference's, and pass core.Check.
func TestMadePrograms(t *testing.T) {
	m := &maker{Rand: seeded(132), cons: programCons()}
	for range 1000 {
		n := m.program(1 + m.Intn(3))
		got, f := desugar.Program(n)
		want := (&reference{}).program(n)
		if f != (api.Fault{}) || !core.SameProg(got, want) {
			t.Fatalf("%s: %s, %v, want %s", textOf(n), core.ProgText(got), f, core.ProgText(want))
		}
		if e := core.Check(got); e != api.OK {
			t.Fatalf("%s: core says %v of %s", textOf(n), e, core.ProgText(got))
		}
	}
}
