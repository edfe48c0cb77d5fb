package simpl_test

import (
	"fmt"
	"testing"

	"thunkmill/api"
	"thunkmill/core"
	"thunkmill/simpl"
	"thunkmill/testkit"
)

// deeper is an expression that a rule makes deeper, by its part X, which then is nested within so many.
type deeper struct {
	rule       int
	text, want string
	within     int
}

func deeperOnes() []deeper {
	return []deeper{
		{api.RuleOnce, "(let x = X in (f (g x)))", "(f (g X))", 2},
		{api.RuleOnce, "(let x = (\\ a -> X) in (\\ y -> (f (g x))))", "(\\ y -> (f (g (\\ a -> X))))", 4},
		{api.RuleOnce, "(let x = X in (case (f 1) of 1 -> 2; _ -> (let z = (g x) in (z z))))", "(case (f 1) of 1 -> 2; _ -> (let z = (g X) in (z z)))", 3},
		{api.RuleBeta, "((\\ x -> (f x)) X 1)", "((let x = X in (f x)) 1)", 2},
		{api.RuleBeta, "((\\ x y -> (f x)) 1 X 1)", "((let x = 1; y = X in (f x)) 1)", 2},
		{api.RuleLetApp, "((let x = 1 in (f x)) X)", "(let x = 1 in ((f x) X))", 2},
		{api.RuleLetApp, "((let x = 1 in (f x)) 1 2 X)", "(let x = 1 in ((f x) 1 2 X))", 2},
		{api.RuleLetCase, "(case (let x = 1 in (f x)) of 1 -> X; _ -> 2)", "(let x = 1 in (case (f x) of 1 -> X; _ -> 2))", 2},
		{api.RuleCaseCase, "(case (case z of 1 -> 2) of 3 -> 4; _ -> X)", "(case z of 1 -> (case 2 of 3 -> 4; _ -> X))", 2},
	}
}

// greater are expressions to which casecase applies at position 2 and that it makes greater, with a part X, and what comes.
func greater() map[string]string {
	alts := "1 -> (f 1 2 3 4 5 6 7 8 9); _ -> z" // 12
	return map[string]string{
		"(f (case (case z of 1 -> 2; _ -> 3) of " + alts + ") X)":   "(f (case z of 1 -> (case 2 of " + alts + "); _ -> (case 3 of " + alts + ")) X)",
		"(f (case (case z of 1 -> 2; 2 -> 3; _ -> 4) of _ -> 5) X)": "(f (case z of 1 -> (case 2 of _ -> 5); 2 -> (case 3 of _ -> 5); _ -> (case 4 of _ -> 5)) X)",
		"(f (case (case X of Cons a b -> a; Nil -> y) of _ -> 5))":  "(f (case X of Cons a b -> (case a of _ -> 5); Nil -> (case y of _ -> 5)))",
		"(f (case (case z of Cons a b -> X; Nil -> y) of _ -> 5))":  "(f (case z of Cons a b -> (case X of _ -> 5); Nil -> (case y of _ -> 5)))",
	}
}

// around is how many expressions there are around the X of a text.
func around(text string) int { return core.Size(read(text)) - 1 }

// withX is the expression of a text with another one in the place of X.
func withX(text string, x api.Expr) api.Expr { return core.Subst(read(text), "X", x) }

// deep is an expression that is nested so deep, of lambdas around a number.
func deep(n int) api.Expr { return testkit.Nested(n, number(1)) }

// longIs holds a rewriting to ErrLong, where the rule applies.
func longIs(t *testing.T, what string, e api.Expr, at, rule int) {
	t.Helper()
	if !applies(t, e, at, rule) {
		t.Errorf("%s: %s does not apply", what, simpl.Name(rule))
	}
	if got, err := simpl.Rewrite(e, at, rule); !isZero(got) || err != api.ErrLong {
		t.Errorf("%s: Rewrite %s: %s, error %d", what, simpl.Name(rule), brief(got), err)
	}
}

// P17.1: what comes is just as deep as it may be, counted from the whole, and deeper by one.
func TestRewriteTooDeep(t *testing.T) {
	for _, d := range deeperOnes() {
		for _, around := range []int{0, 1, 300, 900} {
			n := maxDeep - d.within - around
			e, want := testkit.Nested(around+1, withX(d.text, deep(n))), testkit.Nested(around+1, withX(d.want, deep(n)))
			becomesExpr(t, e, around, d.rule, want)
			longIs(t, fmt.Sprint(d.text, " within ", around), testkit.Nested(around+1, withX(d.text, deep(n+1))), around, d.rule)
		}
	}
}

// P17.1: what comes is just as great as it may be, and greater by one.
func TestRewriteTooGreat(t *testing.T) {
	for text, want := range greater() {
		n := maxSize - around(want)
		becomesExpr(t, withX(text, testkit.Tree(n-1)), 2, api.RuleCaseCase, withX(want, testkit.Tree(n-1)))
		becomesExpr(t, withX(text, testkit.Tree(n)), 2, api.RuleCaseCase, withX(want, testkit.Tree(n)))
		longIs(t, text, withX(text, testkit.Tree(n+1)), 2, api.RuleCaseCase)
	}
}

// P17.1: many alternatives that each get 12 expressions.
func TestRewriteFarTooGreat(t *testing.T) {
	inner := api.Expr{Kind: api.ExCase, Args: list(variable("z"))}
	for i := range 1427 {
		inner.Alts = append(inner.Alts, api.Alt{Kind: api.AltInt, Num: int64(i), E: number(1)})
	}
	outer := read("(case z of 1 -> (f 1 2 3 4 5 6 7 8 9 10))") // 12
	outer.Args = list(inner)
	e := api.Expr{Kind: api.ExApp, Args: list(variable("f"), outer, testkit.Tree(18))}
	if got := rewritten(t, e, 2, api.RuleCaseCase); core.Size(got) != maxSize {
		t.Errorf("what comes has %d expressions", core.Size(got))
	}
	e.Args[2] = testkit.Tree(19)
	longIs(t, "many alternatives", e, 2, api.RuleCaseCase)
	for i := range 5000 {
		inner.Alts = append(inner.Alts, api.Alt{Kind: api.AltInt, Num: int64(-1 - i), E: number(1)})
	}
	outer.Args = list(inner)
	longIs(t, "far more alternatives", outer, 0, api.RuleCaseCase)
}

// P17.1: that a rule does not apply comes ahead of what would be too great or too deep.
func TestNotAppliedAheadOfLong(t *testing.T) {
	e := withX("((let x = 1 in (f x)) X)", deep(maxDeep-1))
	for _, rule := range allRules() {
		want := api.ErrState
		if rule == api.RuleLetApp {
			want = api.ErrLong
		}
		if _, err := simpl.Rewrite(e, 0, rule); err != want {
			t.Errorf("%s: error %d, want %d", simpl.Name(rule), err, want)
		}
	}
}

// P17.2: a rewriting that would be too deep or too great ends a pass, though there are others behind it, and other rules.
func TestPassTooLong(t *testing.T) {
	whole := func(first string, long api.Expr) api.Expr {
		return api.Expr{Kind: api.ExApp, Args: list(variable("f"), read(first), long, read("(#add 3 4)"))}
	}
	ends := func(what string, long api.Expr) {
		e := whole("((f 1) 2)", long)
		for most := range 4 {
			want := whole([]string{"((f 1) 2)", "(f 1 2)"}[min(most, 1)], long)
			if got, n := passed(t, e, most); n != min(most, 1) || !core.Same(got, want) {
				t.Errorf("Pass of %s, %d: %d, %s", what, most, n, brief(got))
			}
		}
	}
	for _, d := range deeperOnes() {
		if firstRule(t, withX(d.text, deep(2))) == d.rule {
			ends(d.text, withX(d.text, deep(maxDeep-d.within)))
		}
	}
	for text, want := range greater() {
		// Once (f 1 2) is there, what would come is too great by one.
		ends(text, withX(text, testkit.Tree(maxSize-around(want)-8)))
	}
}

// P17.2: that it would be too great is asked of what there is then: what has gone makes room, what has come takes it.
func TestPassMakesRoom(t *testing.T) {
	text := "(f (let x = (g X) in 1) (case (case z of 1 -> y; _ -> y) of _ -> (5 5 5)))"
	passIs(t, withX(text, testkit.Tree(maxSize-around(text))), 2, "(f 1 (case z of 1 -> (case y of _ -> (5 5 5)); _ -> (case y of _ -> (5 5 5))))", 2)
	// Each of them grows from 17 to 30.
	grows := read("(case (case z of 1 -> y; _ -> y) of _ -> (f 1 2 3 4 5 6 7 8 9 10))")
	e := spread(testkit.Many(1100, func(int) api.Expr { return grows }))
	want := (maxSize - core.Size(e)) / 13
	if got, n := passed(t, e, api.MaxRewrites); n != want || core.Size(got) != core.Size(e)+13*want {
		t.Errorf("%d rewritings instead of %d, %d expressions", n, want, core.Size(got))
	}
}

// firstRule is the first rule that applies to an expression; 0, if none does.
func firstRule(t *testing.T, e api.Expr) int {
	for _, rule := range allRules() {
		if applies(t, e, 0, rule) {
			return rule
		}
	}
	return 0
}

// P17.2: a pass that is ended in one binding goes on in the next ones.
func TestProgramTooLong(t *testing.T) {
	long := withX("(#exit (h (case (case h of 1 -> 2; _ -> 3) of _ -> 5) X))", testkit.Tree(maxSize-9))
	lines := func(a, z string) api.Prog {
		p := testkit.Prog("a = "+a, "h = (\\ x -> h)", "main = 1", "z = "+z)
		p.Binds[2].E = long
		return p
	}
	programIs(t, lines("(#add 1 (#add 2 3))", "(#add (#add 1 2) 3)"), 10, lines("6", "6"), 4)
}
