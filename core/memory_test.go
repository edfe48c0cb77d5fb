package core_test

import (
	"reflect"
	"slices"
	"testing"

	"thunkmill/api"
	"thunkmill/core"
	"thunkmill/testkit"
)

// Rule 4: what is handed in is as it was, and is shared by no answer, nor are two lists of one; a later change of either is not seen in the other.
func TestMemory(t *testing.T) {
	make := byChance(9)
	for range 700 {
		e, by := testkit.SpareExpr(make.Expr(1+make.Chance.Intn(4))), testkit.SpareExpr(make.Expr(1+make.Chance.Intn(3)))
		wasE, wasBy := testkit.WholeExpr(e), testkit.WholeExpr(by)
		copied, got, free := core.Copy(e), core.Subst(e, "x", by), core.Free(e)
		core.Size(e)
		core.Text(e)
		core.Same(e, by)
		p := api.Prog{Cons: cons(), Binds: []api.Bind{{Name: "z", E: e}, {Name: "a", E: by}}}
		core.Check(p)
		core.CheckExpr(p, e, []string{"x"})
		core.SameProg(p, p)
		core.ProgText(p)
		if !reflect.DeepEqual(testkit.WholeExpr(e), wasE) || !reflect.DeepEqual(testkit.WholeExpr(by), wasBy) || p.Binds[0].Name != "z" {
			t.Fatalf("what was handed in is changed: %s, %s", core.Text(e), core.Text(by))
		}
		at := testkit.Memory{}
		if !at.OwnExpr(&e) || !at.OwnExpr(&by) || !at.OwnExpr(&copied) || !at.OwnExpr(&got) {
			t.Fatalf("lists share memory: %s, %s", core.Text(e), core.Text(by))
		}
		wantCopied, wantGot, wantFree := testkit.WholeExpr(copied), testkit.WholeExpr(got), slices.Clone(free)
		testkit.OverwriteNames(core.Free(e))
		again := core.Subst(e, "x", by)
		testkit.OverwriteExpr(&again)
		again = core.Copy(e)
		testkit.OverwriteExpr(&again)
		if !reflect.DeepEqual(testkit.WholeExpr(e), wasE) || !reflect.DeepEqual(testkit.WholeExpr(by), wasBy) {
			t.Fatalf("what was handed in heeds an answer: %s, %s", core.Text(e), core.Text(by))
		}
		testkit.OverwriteExpr(&e)
		testkit.OverwriteExpr(&by)
		if !reflect.DeepEqual(testkit.WholeExpr(copied), wantCopied) || !reflect.DeepEqual(testkit.WholeExpr(got), wantGot) || !slices.Equal(free, wantFree) {
			t.Fatalf("an answer heeds what was handed in: %s, %s", core.Text(copied), core.Text(got))
		}
	}
}

// A list that stands at several places is answered at each of them in memory of its own.
func TestSharedLists(t *testing.T) {
	twice := read("(\\ y -> (x y))")
	e := api.Expr{Kind: api.ExApp, Args: []api.Expr{twice, twice, twice}}
	for _, got := range []api.Expr{core.Copy(e), core.Subst(e, "x", variable("y")), core.Subst(e, "nowhere", number(1)), core.Subst(read("(x x x)"), "x", twice)} {
		if !(testkit.Memory{}).OwnExpr(&got) {
			t.Errorf("lists of %s share memory", core.Text(got))
		}
	}
	if core.Text(e) != "((\\ y -> (x y)) (\\ y -> (x y)) (\\ y -> (x y)))" {
		t.Errorf("what was handed in is %s", core.Text(e))
	}
}

// The variables of CheckExpr are left as they are, their spare room too.
func TestVarsAreLeft(t *testing.T) {
	const mark = "a mark"
	vars := append([]string{"x", "y"}, mark, mark)[:2]
	p := prog("a = 1", "main = 2")
	binds := append(p.Binds, api.Bind{Name: mark})
	p.Binds = binds[:2]
	if got := core.CheckExpr(p, read("(x y a)"), vars); got != api.OK {
		t.Errorf("CheckExpr: %v", got)
	}
	if got := core.CheckExpr(p, variable(mark), vars); got != api.ErrArg {
		t.Errorf("CheckExpr of a name that may not be: %v", got)
	}
	if !slices.Equal(vars[:4], []string{"x", "y", mark, mark}) || binds[2].Name != mark {
		t.Errorf("spare room is written: %q", vars[:4])
	}
}
