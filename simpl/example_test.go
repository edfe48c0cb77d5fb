package simpl_test

import (
	"testing"

	"thunkmill/api"
	"thunkmill/core"
	"thunkmill/simpl"
)

// The chapter's examples: a call is rewritten by beta, atom, fold.
func TestExampleCall(t *testing.T) {
	e := read("((\\ x -> (#add x x)) 3)")
	for _, s := range []struct {
		rule int
		want string
	}{{api.RuleBeta, "(let x = 3 in (#add x x))"}, {api.RuleAtom, "(#add 3 3)"}, {api.RuleFold, "6"}} {
		becomes(t, e, 0, s.rule, s.want)
		e = rewritten(t, e, 0, s.rule)
	}
}

// The chapter's examples: a case of a constructor.
func TestExampleCase(t *testing.T) {
	becomes(t, read("(case (Cons 1 (Nil)) of Cons a b -> a)"), 0, api.RuleCase, "(let a = 1; b = (Nil) in a)")
}

// The chapter's examples: a name within a lambda.
func TestExampleWithinLambda(t *testing.T) {
	e := read("(let x = (f 1) in (\\ y -> x))")
	if what := nothingApplies(t, e); what != "" {
		t.Errorf("applies: %s", what)
	}
	passIs(t, e, 10, "(let x = (f 1) in (\\ y -> x))", 0)
}

// The chapter's examples: a pass.
func TestExamplePass(t *testing.T) {
	passIs(t, read("((\\ x -> (#add x x)) 3)"), 10, "6", 3)
}

// passIs holds a pass to what comes, and after how many rewritings.
func passIs(t *testing.T, e api.Expr, most int, want string, n int) {
	t.Helper()
	if got, done := passed(t, e, most); !core.Same(got, read(want)) || done != n {
		t.Errorf("Pass of %s, %d: %s, %d, want %s, %d", brief(e), most, brief(got), done, want, n)
	}
}

// P17.2: the names of all rules, and of numbers that are none.
func TestName(t *testing.T) {
	want := map[int]string{
		api.RuleDead: "dead", api.RuleAtom: "atom", api.RuleOnce: "once", api.RuleBeta: "beta", api.RuleCase: "case", api.RuleCaseCase: "casecase",
		api.RuleLetApp: "letapp", api.RuleLetCase: "letcase", api.RuleFold: "fold", api.RuleSeq: "seq", api.RuleAppApp: "appapp", api.RuleCaseLet: "caselet",
		0: "", 13: "", -1: "", 14: "", 1 << 40: "", -1 << 63: "", 1<<63 - 1: "",
	}
	for rule, name := range want {
		if got := simpl.Name(rule); got != name {
			t.Errorf("Name(%d): %q, want %q", rule, got, name)
		}
	}
}
