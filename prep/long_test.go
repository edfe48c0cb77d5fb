package prep_test

import (
	"testing"

	"thunkmill/api"
	"thunkmill/core"
	"thunkmill/prep"
	"thunkmill/testkit"
)

// together are expressions as a program's bindings, the last one as main.
func together(l ...api.Expr) api.Prog {
	p := testkit.Together(l...)
	p.Cons = cons()
	return p
}

// growing are expressions that have more parts once they are prepared, or are nested deeper, and some that do not.
func growing() []string {
	return []string{
		"1", "(b0 1)", "(b0 (Nil))", "(b0 (b0 1))", "(b0 (Nil) 1 (Nil))", "(b0 (b0 (b0 (b0 (Nil)))))", "((b0 (Nil)) (Nil))", "((((b0 (Nil)) (Nil)) (Nil)) (Nil))",
		"(Cons 1 (Cons 2 (Cons 3 (Nil))))", "(Four (Nil) (Nil) (Nil) (Nil))", "(Four 1 2 3 4)", "(Blue (Blue (Blue 1)))", "(Blue (b0 (b0 1 2) 3))", "(Blue (Blue (\\ x -> (\\ y -> (\\ z -> x)))))",
		"(#add (#add 1 2) (b0 (Nil)))", "(#add (#add (b0 (Nil)) 2) 3)", "(#seq (#seq (Nil) (Nil)) (Nil))", "(#bind (#getc) (\\ c -> (#putc (#chr c))))", "(#error (#error (#error (Nil))))",
		"(\\ x -> (x (\\ y -> (y (\\ z -> z)))))", "(let x = (b0 (Nil)); y = (b0 (b0 1)) in (x (y (Nil))))", "(case (b0 (Nil)) of Nil -> (b0 (Nil)); Cons x y -> (x (y x)); _ -> 1)",
		"(b0 (\\ x -> (\\ y -> (\\ z -> x))) (Nil))", "((\\ x -> (\\ y -> (\\ z -> (x y z)))) (Nil))", "((b0 1) (Nil))", "(((b0 1) (Nil)) (\\ x -> (\\ y -> x)))", "((case 1 of 1 -> (b0 (Nil))) (Nil))", "((let x = (Nil) in (x x)) (Nil))",
	}
}

// P18.1: a program that becomes just too great, and one that just does not, which may have as many expressions as there may be ahead.
func TestTooMany(t *testing.T) {
	t.Parallel()
	for _, text := range growing() {
		e := read(text)
		made := 0
		grown := core.Size(refPrep(e, &made))
		most := testkit.Flat(api.MaxNodes - grown)
		if q, err := prep.Prep(together(e, most)); err != api.OK || testkit.SizeOf(q) != api.MaxNodes {
			t.Errorf("Prep of %s and others: error %d, %d expressions", text, err, testkit.SizeOf(q))
		}
		refuses(t, text, together(e, testkit.Flat(api.MaxNodes-grown+1)), api.ErrLong)
		refuses(t, text+", the last one", together(testkit.Flat(api.MaxNodes-grown+1), e), api.ErrLong)
	}
}

// P18.1: as many as there may be, each list of parts; what need not be bound stays.
func TestAsManyAsMayBe(t *testing.T) {
	t.Parallel()
	for what, e := range map[string]api.Expr{"flat": testkit.Flat(api.MaxNodes), "deep": testkit.Nested(api.MaxNest, number(1)), "flat and deep": testkit.Nested(api.MaxNest-2, testkit.Flat(api.MaxNodes-api.MaxNest+3))} {
		p := together(e)
		if q := prepared(t, p); !core.SameProg(p, q) {
			t.Errorf("Prep, %s: it is another one", what)
		}
	}
	for what, e := range testkit.Great(api.MaxNodes) {
		refuses(t, what, together(e), api.ErrLong)
		// Each argument that is no atom takes two more at most.
		third, made := testkit.Great(api.MaxNodes / 3)[what], 0
		q := prepared(t, together(third))
		if want := core.Size(refPrep(third, &made)); testkit.SizeOf(q) != want {
			t.Errorf("Prep, %s: %d expressions, want %d", what, testkit.SizeOf(q), want)
		}
	}
}

// P18.1: a program that becomes just too deep, just as deep as may be, and just not so deep.
func TestTooDeep(t *testing.T) {
	deeper := 0
	for _, text := range growing() {
		e := read(text)
		made := 0
		grown := refDeep(refPrep(e, &made))
		for more, want := range map[int]api.Errno{-2: api.OK, -1: api.OK, 0: api.OK, 1: api.ErrLong, 2: api.ErrLong} {
			whole := testkit.Nested(api.MaxNest+more-grown+1, e)
			if want != api.OK {
				refuses(t, text, together(number(1), whole), want)
				refuses(t, text, together(whole, number(1)), want)
				if core.Check(together(number(1), whole)) == api.OK {
					deeper++
				}
				continue
			}
			if q := prepared(t, together(number(1), whole)); refDeep(mainOf(q)) != api.MaxNest+more {
				t.Errorf("Prep of %s in lambdas is nested %d deep", text, refDeep(mainOf(q)))
			}
		}
	}
	if deeper < 10 {
		t.Errorf("%d programs only became too deep", deeper)
	}
}

// P18.1: functions of applications, and strict arguments, become nested twice as deep.
func TestTwiceAsDeep(t *testing.T) {
	inFunctions := func(n int) api.Expr {
		e := variable("b0")
		for range n {
			e = application(e, read("(Nil)"))
		}
		return e
	}
	inStrict := func(n int) api.Expr {
		e := variable("b0")
		for range n {
			e = api.Expr{Kind: api.ExPrim, Name: "seq", Args: list(e, read("(Nil)"))}
		}
		return e
	}
	for what, of := range map[string]func(n int) api.Expr{"functions": inFunctions, "strict arguments": inStrict} {
		half := (api.MaxNest - 1) / 2
		if q := prepared(t, together(number(1), of(half))); refDeep(mainOf(q)) != api.MaxNest-1 {
			t.Errorf("%s: nested %d deep", what, refDeep(mainOf(q)))
		}
		prepared(t, together(number(1), testkit.Nested(2, of(half))))
		refuses(t, what, together(number(1), testkit.Nested(3, of(half))), api.ErrLong)
		refuses(t, what, together(number(1), of(half+1)), api.ErrLong)
		refuses(t, what, together(number(1), of(api.MaxNest-1)), api.ErrLong)
	}
	// What is bound does not.
	bound := number(1)
	for range api.MaxNest - 1 {
		bound = application(variable("b0"), bound)
	}
	if q := prepared(t, together(number(1), bound)); refDeep(mainOf(q)) != api.MaxNest {
		t.Errorf("bound ones: nested %d deep", refDeep(mainOf(q)))
	}
}

// P18.1: core.Check's errors come ahead of what a program would become.
func TestLongBehindOthers(t *testing.T) {
	great := testkit.Tree(api.MaxNodes - 2)
	refuses(t, "too great, too", together(great, number(1)), api.ErrLong)
	for what, x := range map[string]testkit.WrongExpr{"no scope": {E: variable("nowhere"), Err: api.ErrScope}, "no shape": {E: read("(Nil 1)"), Err: api.ErrShape}, "no kind": {E: api.Expr{}, Err: api.ErrArg}} {
		e := great
		if what == "no shape" {
			e = testkit.Tree(api.MaxNodes - 3)
		}
		refuses(t, what, together(e, x.E), x.Err)
		refuses(t, what, together(x.E, e), x.Err)
	}
	p := together(great, number(1))
	p.Binds[1].Name = "mainly"
	refuses(t, "no main", p, api.ErrMain)
}
