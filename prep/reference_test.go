package prep_test

import (
	"fmt"
	"slices"
	"testing"

	"thunkmill/api"
	"thunkmill/core"
	"thunkmill/prep"
	"thunkmill/prim"
	"thunkmill/testkit"
)

// The reference does word by word what the chapter says. Its new names are none that programs have, so that it replaces no others.

// refParts are the expressions in one.
func refParts(e api.Expr) []api.Expr {
	var l []api.Expr
	for _, b := range e.Binds {
		l = append(l, b.E)
	}
	l = append(l, e.Args...)
	for _, a := range e.Alts {
		l = append(l, a.E)
	}
	return l
}

func refAtom(e api.Expr) bool {
	return e.Kind == api.ExVar || e.Kind == api.ExInt || e.Kind == api.ExChar
}

// refMust are the Args that must be atoms.
func refMust(e api.Expr) []api.Expr {
	switch e.Kind {
	case api.ExCon:
		return e.Args
	case api.ExApp:
		return e.Args[min(1, len(e.Args)):]
	case api.ExPrim:
		return e.Args[min(max(0, prim.Strict(e.Name)), len(e.Args)):]
	}
	return nil
}

func refNormal(e api.Expr) bool {
	if refAtom(e) {
		return true
	}
	for _, part := range refParts(e) {
		if !refNormal(part) {
			return false
		}
	}
	for _, arg := range refMust(e) {
		if !refAtom(arg) {
			return false
		}
	}
	return true
}

// refBound has the names that are bound in an expression, at each place, behind others.
func refBound(l []string, e api.Expr) []string {
	l = append(l, e.Params...)
	for _, b := range e.Binds {
		l = append(l, b.Name)
	}
	for _, a := range e.Alts {
		l = append(l, a.Vars...)
	}
	for _, part := range refParts(e) {
		l = refBound(l, part)
	}
	return l
}

// refNames are the bound names of a program, at each place.
func refNames(p api.Prog) []string {
	var l []string
	for _, b := range p.Binds {
		l = refBound(l, b.E)
	}
	return l
}

func refPrepared(p api.Prog) bool {
	if core.Check(p) != api.OK {
		return false
	}
	for _, b := range p.Binds {
		if !refNormal(b.E) {
			return false
		}
	}
	l := append(refNames(p), namesOf(p)...)
	return len(slices.Compact(slices.Sorted(slices.Values(l)))) == len(l)
}

// refPrep is an expression, prepared; new counts the new names.
func refPrep(e api.Expr, made *int) api.Expr {
	e.Binds, e.Args, e.Alts = slices.Clone(e.Binds), slices.Clone(e.Args), slices.Clone(e.Alts)
	for i := range e.Binds {
		e.Binds[i].E = refPrep(e.Binds[i].E, made)
	}
	for i := range e.Args {
		e.Args[i] = refPrep(e.Args[i], made)
	}
	for i := range e.Alts {
		e.Alts[i].E = refPrep(e.Alts[i].E, made)
	}
	let := api.Expr{Kind: api.ExLet}
	must := refMust(e)
	for i := range must {
		if !refAtom(must[i]) {
			*made++
			name := fmt.Sprint("%new", *made)
			let.Binds = append(let.Binds, api.Bind{Name: name, E: must[i]})
			must[i] = variable(name)
		}
	}
	if len(let.Binds) == 0 {
		return e
	}
	let.Args = list(e)
	return let
}

// refProg is a program, prepared but for its bound names.
func refProg(p api.Prog) api.Prog {
	q, made := api.Prog{Cons: p.Cons}, 0
	for _, b := range p.Binds {
		q.Binds = append(q.Binds, api.Bind{Name: b.Name, E: refPrep(b.E, &made)})
	}
	return q
}

func refDeep(e api.Expr) int {
	deep := 0
	for _, part := range refParts(e) {
		deep = max(deep, refDeep(part))
	}
	return deep + 1
}

// madeProgs are programs made by chance, of those that mostly do something and of others.
func madeProgs(seed int64, n int) []api.Prog {
	m := seeded(seed)
	var l []api.Prog
	for range n {
		other, _ := m.ByTable()
		l = append(l, m.Program(), other)
	}
	return l
}

// P18.1, P18.2, P18.3: over programs made by chance.
func TestAsReference(t *testing.T) {
	t.Parallel()
	grown, kept := 0, 0
	for _, p := range madeProgs(181, 3000) {
		want := refProg(p)
		q := prepared(t, p)
		if !core.SameProg(q, want) {
			t.Fatalf("Prep of %s: %s, want %s", brief(p), brief(q), brief(want))
		}
		if core.SameProg(p, q) {
			kept++
		} else {
			grown++
		}
		asReference(t, p)
		asReference(t, want)
		for _, b := range append(p.Binds, want.Binds...) {
			normalAsReference(t, b.E)
		}
	}
	if grown < 1000 || kept < 20 {
		t.Errorf("%d programs were changed, %d not", grown, kept)
	}
}

// asReference holds Prepared and Names to what they are to tell.
func asReference(t *testing.T, p api.Prog) {
	t.Helper()
	if is := prep.Prepared(p); is != refPrepared(p) {
		t.Fatalf("Prepared of %s: %v", brief(p), is)
	}
	want := slices.Compact(slices.Sorted(slices.Values(refNames(p))))
	if got := prep.Names(p); !slices.Equal(got, want) {
		t.Fatalf("Names of %s: %q, want %q", brief(p), got, want)
	}
}

// normalAsReference holds Atom and Normal to what they are to tell of an expression and all that is in it.
func normalAsReference(t *testing.T, e api.Expr) {
	t.Helper()
	if is := prep.Normal(e); is != refNormal(e) {
		t.Fatalf("Normal of %s: %v", core.Text(e), is)
	}
	if is := prep.Atom(e); is != refAtom(e) {
		t.Fatalf("Atom of %s: %v", core.Text(e), is)
	}
	for _, part := range refParts(e) {
		normalAsReference(t, part)
	}
}

// P18.1, P18.2: programs made by chance whose bound names are few, and are names of bindings, too: they hide one another.
func TestNamesAsReference(t *testing.T) {
	t.Parallel()
	m := seeded(182)
	_, x := m.ByTable()
	unlike := 0
	for range 6000 {
		var p api.Prog
		for _, name := range []string{"main", "w", "x", "y", "z"} {
			p.Binds = append(p.Binds, api.Bind{Name: name, E: x.Expr(1 + m.Chance.Intn(5))})
		}
		p.Cons = testkit.Cons()
		if q := prepared(t, p); !core.SameProg(q, refProg(p)) {
			t.Fatalf("Prep of %s: %s, want %s", brief(p), brief(q), brief(refProg(p)))
		}
		for i, b := range p.Binds {
			p.Binds[i].E = testkit.ByLevel().Renamed(b.E, testkit.Itself(namesOf(p)))
		}
		asReference(t, p)
		asReference(t, refProg(p))
		if refPrepared(refProg(p)) {
			unlike++
		}
	}
	if unlike < 100 {
		t.Errorf("%d programs only were prepared", unlike)
	}
}
