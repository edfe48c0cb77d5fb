package desugar_test

import (
	"slices"
	"strconv"
	"testing"

	"thunkmill/api"
	"thunkmill/core"
	"thunkmill/desugar"
	"thunkmill/scope"
	"thunkmill/syntax"
	"thunkmill/testkit"
)

// spoil puts a fault into a tree, or several, or none: nodes that may not be, operators in rows, names that come twice, constructors that are none, or have other parts, equations with more patterns.
func (m *maker) spoil(n api.Node) api.Node {
	n = testkit.Placed(n)
	for range m.Intn(3) {
		all := places(&n)
		k := all[m.Intn(len(all))]
		at := k.At
		switch {
		case m.Intn(40) == 0:
			k.Num = -1
		case m.Intn(30) == 0 && isExpr(k.Kind):
			*k = node(api.NdOps, one(), named(api.NdOp, "+"), one())
		case m.Intn(30) == 0 && k.Kind == api.NdWhere:
			k.Kids = append(k.Kids, pick(m, named(api.NdData, "T", named(api.NdConDef, "P")), api.Node{Kind: api.NdFixity, Name: "infix", Kids: []api.Node{named(api.NdOp, "+")}}))
		case m.Intn(4) == 0 && isExpr(k.Kind):
			*k = named(api.NdCon, pick(m, "Zoe", "A", "Tup4"))
		case m.Intn(3) == 0 && k.Kind >= api.NdPVar && k.Kind <= api.NdPLazy:
			*k = pick(m, named(api.NdPCon, "Zoe"), named(api.NdPCon, "B"), node(api.NdPOps, anything(), named(api.NdOp, ":"), anything()), named(api.NdPCon, "C", anything(), anything()))
		case k.Kind >= api.NdPVar && k.Kind <= api.NdPLazy:
			*k = named(api.NdPVar, pick(m, someNames()...))
		case k.Kind == api.NdEqn || k.Kind == api.NdLam:
			k.Kids = append(many(pick(m, 1, 33-len(k.Kids), 34-len(k.Kids)), anything()), k.Kids...)
		case k.Kind == api.NdWhere && len(k.Kids) > 0:
			k.Kids = append(slices.Clone(k.Kids), k.Kids[m.Intn(len(k.Kids))])
		}
		k.At = at
	}
	return n
}

func isExpr(kind int) bool { return kind >= api.NdVar && kind <= api.NdParen && kind != api.NdAlt }

// asProgram is one in which an expression is a right side, and all its free names are there.
func asProgram(n api.Node) api.Node {
	own := []api.Node{{Kind: api.NdConDef, Name: "A"}, {Kind: api.NdConDef, Name: "B", Num: 1}, {Kind: api.NdConDef, Name: "C", Num: 3}}
	decls := []api.Node{named(api.NdData, "Own", own...), is("main", n)}
	for _, name := range scope.Free(n) {
		switch {
		case core.Arity(name) >= 0 || name == "main":
		case name[0] >= 'a':
			decls = append(decls, is(name, one()))
		default:
			decls = append(decls, named(api.NdEqn, name, anything(), node(api.NdRhs, one())))
		}
	}
	return node(api.NdProgram, decls...)
}

// refusal is Expr's fault, found in another way: layers 9 and 10 are asked of a whole program.
func refusal(n api.Node) api.Fault {
	if e := syntax.Check(n); e != api.OK {
		return api.Fault{Err: e}
	}
	long := false
	for _, k := range places(&n) {
		if slices.Contains([]int{api.NdOps, api.NdPOps, api.NdData, api.NdFixity}, k.Kind) {
			return api.Fault{Err: api.ErrArg}
		}
		long = long || (k.Kind == api.NdEqn || k.Kind == api.NdLam) && len(k.Kids) > 33
	}
	if f := scope.Check(asProgram(n)); f != (api.Fault{}) {
		return f
	}
	if long {
		return api.Fault{Err: api.ErrLong}
	}
	return api.Fault{}
}

// P13.1: of expressions with faults, made by chance, the one that is named first, at its place.
func TestMadeFaults(t *testing.T) {
	m := &maker{Rand: seeded(136), open: true, cons: programCons()}
	seen := counted{}
	for range 4000 {
		n := m.spoil(m.expr(2+m.Intn(4), nil))
		want := refusal(n)
		checkFault(t, "made", n, programCons(), want)
		if t.Failed() {
			t.Fatalf("in %s", textOf(n))
		}
		seen[strconv.Itoa(int(want.Err))]++
		if want.At > 0 {
			seen["placed"]++
		}
	}
	seen.least(t, map[string]int{"0": 1000, "2": 200, "3": 15, "8": 250, "9": 100, "placed": 400})
}

// P13.2: of programs with faults likewise: all that layer 10 says, what may not be, no main, too many.
func TestMadeProgramFaults(t *testing.T) {
	m := &maker{Rand: seeded(137), cons: programCons()}
	seen := counted{}
	for range 1500 {
		n := m.spoil(m.program(1 + m.Intn(3)))
		if m.Intn(5) == 0 {
			n.Kids = slices.DeleteFunc(slices.Clone(n.Kids), func(d api.Node) bool { return slices.Contains(definedBy([]api.Node{d}), "main") })
		}
		want := scope.Check(n)
		for _, f := range []struct {
			applies bool
			e       api.Errno
		}{{hasInner(n), api.ErrArg}, {!slices.Contains(definedBy(n.Kids), "main"), api.ErrMain}, {hasMany(n), api.ErrLong}} {
			if want.Err == api.OK && f.applies {
				want.Err = f.e
			}
		}
		checkProgramFault(t, "made", n, want)
		if want.Err == api.OK {
			p, _ := desugar.Program(n)
			if e := core.Check(p); e != api.OK {
				t.Errorf("core says %v", e)
			}
		}
		if t.Failed() {
			t.Fatalf("in %s", textOf(n))
		}
		seen[strconv.Itoa(int(want.Err))]++
	}
	seen.least(t, map[string]int{"0": 300, "2": 30, "3": 3, "8": 50, "9": 20, "10": 50})
}

// hasInner tells whether operators are not in order, or a fixity or data stand within.
func hasInner(n api.Node) bool {
	for _, k := range places(&n) {
		if k.Kind == api.NdOps || k.Kind == api.NdPOps {
			return true
		}
		if k.Kind == api.NdWhere && slices.ContainsFunc(k.Kids, func(d api.Node) bool { return d.Kind == api.NdData || d.Kind == api.NdFixity }) {
			return true
		}
	}
	return false
}

// hasMany tells whether an equation or a lambda has too many patterns.
func hasMany(n api.Node) bool {
	return slices.ContainsFunc(places(&n), func(k *api.Node) bool {
		return (k.Kind == api.NdEqn || k.Kind == api.NdLam) && len(k.Kids) > 33
	})
}
