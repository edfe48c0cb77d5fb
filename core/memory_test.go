package core_test

import (
	"reflect"
	"slices"
	"testing"

	"thunkmill/api"
	"thunkmill/core"
)

const mark = "a mark"

// spare is an expression in memory of its own whose lists have spare room, with marks in it.
func spare(e api.Expr) api.Expr {
	marked := func() api.Expr { return api.Expr{Kind: -9, Name: mark, Args: many(1, variable(mark))} }
	e.Params = append(slices.Clone(e.Params), mark, mark)[:len(e.Params)]
	args := make([]api.Expr, len(e.Args), len(e.Args)+2)
	for i := range e.Args {
		args[i] = spare(e.Args[i])
	}
	e.Args = append(args, marked(), marked())[:len(args)]
	binds := make([]api.Bind, len(e.Binds), len(e.Binds)+2)
	for i, b := range e.Binds {
		binds[i] = api.Bind{Name: b.Name, E: spare(b.E)}
	}
	e.Binds = append(binds, api.Bind{Name: mark, E: marked()}, api.Bind{Name: mark})[:len(binds)]
	alts := make([]api.Alt, len(e.Alts), len(e.Alts)+2)
	for i, a := range e.Alts {
		a.Vars, a.E = append(slices.Clone(a.Vars), mark, mark)[:len(a.Vars)], spare(a.E)
		alts[i] = a
	}
	e.Alts = append(alts, api.Alt{Name: mark, Vars: []string{mark}, E: marked()}, api.Alt{Name: mark})[:len(alts)]
	return e
}

// whole is an expression with all spare room as parts of it, in memory of its own.
func whole(e api.Expr) api.Expr {
	e.Params = slices.Clone(e.Params[:cap(e.Params)])
	e.Args, e.Binds, e.Alts = slices.Clone(e.Args[:cap(e.Args)]), slices.Clone(e.Binds[:cap(e.Binds)]), slices.Clone(e.Alts[:cap(e.Alts)])
	for i := range e.Args {
		e.Args[i] = whole(e.Args[i])
	}
	for i := range e.Binds {
		e.Binds[i].E = whole(e.Binds[i].E)
	}
	for i := range e.Alts {
		e.Alts[i].Vars = slices.Clone(e.Alts[i].Vars[:cap(e.Alts[i].Vars)])
		e.Alts[i].E = whole(e.Alts[i].E)
	}
	return e
}

// owned gathers where the items of all lists of an expression are, their spare room with them, and tells whether one of them is there already.
func owned(e *api.Expr, at map[any]bool) bool {
	ok := true
	own := func(p any) { ok = ok && !at[p]; at[p] = true }
	names := func(l []string) {
		for i := range l[:cap(l)] {
			own(&l[:cap(l)][i])
		}
	}
	names(e.Params)
	for i := range e.Args[:cap(e.Args)] {
		own(&e.Args[:cap(e.Args)][i])
		ok = owned(&e.Args[:cap(e.Args)][i], at) && ok
	}
	for i := range e.Binds[:cap(e.Binds)] {
		own(&e.Binds[:cap(e.Binds)][i])
		ok = owned(&e.Binds[:cap(e.Binds)][i].E, at) && ok
	}
	for i := range e.Alts[:cap(e.Alts)] {
		a := &e.Alts[:cap(e.Alts)][i]
		own(a)
		names(a.Vars)
		ok = owned(&a.E, at) && ok
	}
	return ok
}

// overwrite changes all that can be reached of an expression.
func overwrite(e *api.Expr) {
	for i := range e.Args[:cap(e.Args)] {
		overwrite(&e.Args[:cap(e.Args)][i])
	}
	for i := range e.Binds[:cap(e.Binds)] {
		overwrite(&e.Binds[:cap(e.Binds)][i].E)
		e.Binds[:cap(e.Binds)][i].Name = "overwritten"
	}
	for i := range e.Alts[:cap(e.Alts)] {
		a := &e.Alts[:cap(e.Alts)][i]
		overwrite(&a.E)
		a.Kind, a.Name, a.Num = -5, "overwritten", -5
		overwriteNames(a.Vars)
	}
	overwriteNames(e.Params)
	e.Kind, e.Name, e.Num = -5, "overwritten", -5
}

func overwriteNames(l []string) {
	for i := range l[:cap(l)] {
		l[:cap(l)][i] = "overwritten"
	}
}

// Rule 4: what is handed in is as it was, and is shared by no answer, nor are two lists of one; a later change of either is not seen in the other.
func TestMemory(t *testing.T) {
	make := byChance(9)
	for range 700 {
		e, by := spare(make.Expr(1+make.Chance.Intn(4))), spare(make.Expr(1+make.Chance.Intn(3)))
		wasE, wasBy := whole(e), whole(by)
		copied, got, free := core.Copy(e), core.Subst(e, "x", by), core.Free(e)
		core.Size(e)
		core.Text(e)
		core.Same(e, by)
		p := api.Prog{Cons: cons(), Binds: []api.Bind{{Name: "z", E: e}, {Name: "a", E: by}}}
		core.Check(p)
		core.CheckExpr(p, e, []string{"x"})
		core.SameProg(p, p)
		core.ProgText(p)
		if !reflect.DeepEqual(whole(e), wasE) || !reflect.DeepEqual(whole(by), wasBy) || p.Binds[0].Name != "z" {
			t.Fatalf("what was handed in is changed: %s, %s", core.Text(e), core.Text(by))
		}
		at := map[any]bool{}
		if !owned(&e, at) || !owned(&by, at) || !owned(&copied, at) || !owned(&got, at) {
			t.Fatalf("lists share memory: %s, %s", core.Text(e), core.Text(by))
		}
		wantCopied, wantGot, wantFree := whole(copied), whole(got), slices.Clone(free)
		overwriteNames(core.Free(e))
		again := core.Subst(e, "x", by)
		overwrite(&again)
		again = core.Copy(e)
		overwrite(&again)
		if !reflect.DeepEqual(whole(e), wasE) || !reflect.DeepEqual(whole(by), wasBy) {
			t.Fatalf("what was handed in heeds an answer: %s, %s", core.Text(e), core.Text(by))
		}
		overwrite(&e)
		overwrite(&by)
		if !reflect.DeepEqual(whole(copied), wantCopied) || !reflect.DeepEqual(whole(got), wantGot) || !slices.Equal(free, wantFree) {
			t.Fatalf("an answer heeds what was handed in: %s, %s", core.Text(copied), core.Text(got))
		}
	}
}

// A list that stands at several places is answered at each of them in memory of its own.
func TestSharedLists(t *testing.T) {
	twice := read("(\\ y -> (x y))")
	e := api.Expr{Kind: api.ExApp, Args: []api.Expr{twice, twice, twice}}
	for _, got := range []api.Expr{core.Copy(e), core.Subst(e, "x", variable("y")), core.Subst(e, "nowhere", number(1)), core.Subst(read("(x x x)"), "x", twice)} {
		if !owned(&got, map[any]bool{}) {
			t.Errorf("lists of %s share memory", core.Text(got))
		}
	}
	if core.Text(e) != "((\\ y -> (x y)) (\\ y -> (x y)) (\\ y -> (x y)))" {
		t.Errorf("what was handed in is %s", core.Text(e))
	}
}

// The variables of CheckExpr are left as they are, their spare room too.
func TestVarsAreLeft(t *testing.T) {
	vars := append([]string{"x", "y"}, mark, mark)[:2]
	p := prog("a = 1", "main = 2")
	binds := append(p.Binds, api.Bind{Name: mark})
	p.Binds = binds[:2]
	if got := core.CheckExpr(p, read("(x y a)"), vars); got != api.OK {
		t.Errorf("CheckExpr: %v", got)
	}
	if got := core.CheckExpr(p, variable(mark), vars); got != api.ErrArg {
		t.Errorf("CheckExpr of a name that may not be: %v", got)
	}
	if !slices.Equal(vars[:4], []string{"x", "y", mark, mark}) || binds[2].Name != mark {
		t.Errorf("spare room is written: %q", vars[:4])
	}
}
