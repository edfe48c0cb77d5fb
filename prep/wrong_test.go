package prep_test

import (
	"testing"

	"thunkmill/api"
	"thunkmill/core"
	"thunkmill/prep"
	"thunkmill/testkit"
)

// P18.1, P18.2: programs that may not be: each of core.Check's errors, in its order; they are not prepared, and no names are told of them.
func TestProgramsThatMayNotBe(t *testing.T) {
	for what, x := range testkit.WrongProgs() {
		mayNotBe(t, what, x.P, x.Err)
	}
}

func mayNotBe(t *testing.T, what string, p api.Prog, want api.Errno) {
	t.Helper()
	if err := core.Check(p); err != want {
		t.Errorf("Check, %s: %d, want %d", what, err, want)
	}
	refuses(t, what, p, want)
	if prep.Prepared(p) {
		t.Errorf("Prepared, %s: true", what)
	}
	if l := prep.Names(p); len(l) > 0 {
		t.Errorf("Names, %s: %.99q", what, l)
	}
}

// P18.1, P18.2: a program that has bound names, and is prepared but for what it may not be.
func TestPreparedButMayNotBe(t *testing.T) {
	good := func() api.Prog {
		return testkit.Prog("a = (\\ x -> x)", "main = (let y = (a 1) in (case y of z -> (Cons z y)))")
	}
	if p := good(); !prep.Prepared(p) || len(prep.Names(p)) != 3 {
		t.Fatalf("Prepared of %s: %v", brief(p), prep.Prepared(p))
	}
	for what, x := range map[string]struct {
		spoil func(p *api.Prog)
		want  api.Errno
	}{
		"no main":                  {func(p *api.Prog) { p.Binds[1].Name = "mainly" }, api.ErrMain},
		"no scope":                 {func(p *api.Prog) { p.Binds[0].E.Args[0].Name = "z" }, api.ErrScope},
		"no scope and no main":     {func(p *api.Prog) { p.Binds[0].E.Args[0].Name, p.Binds[1].Name = "z", "mainly" }, api.ErrScope},
		"no such constructor":      {func(p *api.Prog) { p.Cons = p.Cons[3:]; p.Binds[0].E = read("(Red)") }, api.ErrShape},
		"a constructor's type":     {func(p *api.Prog) { p.Cons[0].Type = "Z" }, api.ErrArg},
		"a name of two bytes more": {func(p *api.Prog) { p.Binds[0].E.Params[0] = "x y" }, api.ErrArg},
		"a lambda of two bodies":   {func(p *api.Prog) { p.Binds[0].E.Args = list(number(1), number(2)) }, api.ErrArg},
		"too deep":                 {func(p *api.Prog) { p.Binds[0].E = testkit.Nested(api.MaxNest+1, number(1)) }, api.ErrLong},
	} {
		p := good()
		x.spoil(&p)
		mayNotBe(t, what, p, x.want)
	}
}
