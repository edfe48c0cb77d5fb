package simpl_test

import (
	"fmt"
	"math/rand"
	"slices"
	"strings"
	"testing"

	"thunkmill/api"
	"thunkmill/core"
	"thunkmill/simpl"
	"thunkmill/testkit"
)

// read is the expression of a text as chapter 7 tells it.
func read(text string) api.Expr { return testkit.MustCore(text) }

func variable(name string) api.Expr { return api.Expr{Kind: api.ExVar, Name: name} }

func number(n int64) api.Expr { return api.Expr{Kind: api.ExInt, Num: n} }

func list(l ...api.Expr) []api.Expr { return l }

// seeded makes programs by chance.
func seeded(seed int64) *testkit.Maker {
	return &testkit.Maker{Chance: rand.New(rand.NewSource(seed))}
}

// byChance makes expressions of few names, as chapter 7's table says.
func byChance(seed int64) testkit.Exprs {
	_, x := seeded(seed).ByTable()
	return x
}

// brief is the text of an expression that may be great.
func brief(e api.Expr) string { return fmt.Sprintf("%.300s", core.Text(e)) }

// positions are how many an expression has, which must not be great.
func positions(e api.Expr) int { return core.Size(e) }

// applies tells whether a rule applies to an expression as it may be.
func applies(t *testing.T, e api.Expr, at, rule int) bool {
	t.Helper()
	is, err := simpl.Applies(e, at, rule)
	if err != api.OK {
		t.Fatalf("Applies %s at %d of %s: error %d", simpl.Name(rule), at, brief(e), err)
	}
	return is
}

// rewritten is an expression in which a rule is applied that applies there.
func rewritten(t *testing.T, e api.Expr, at, rule int) api.Expr {
	t.Helper()
	got, err := simpl.Rewrite(e, at, rule)
	if err != api.OK {
		t.Fatalf("Rewrite %s at %d of %s: error %d", simpl.Name(rule), at, brief(e), err)
	}
	return got
}

// passed is an expression as it may be, behind a pass.
func passed(t *testing.T, e api.Expr, most int) (api.Expr, int) {
	t.Helper()
	got, n, err := simpl.Pass(e, most)
	if err != api.OK {
		t.Fatalf("Pass of %s, %d: error %d", brief(e), most, err)
	}
	return got, n
}

// becomes holds a rule to what it makes of an expression; to nothing, if the rule does not apply.
func becomes(t *testing.T, e api.Expr, at, rule int, want string) {
	t.Helper()
	becomesExpr(t, e, at, rule, wanted(want))
}

func wanted(text string) api.Expr {
	if text == "" {
		return api.Expr{}
	}
	return read(text)
}

func becomesExpr(t *testing.T, e api.Expr, at, rule int, want api.Expr) {
	t.Helper()
	there, no := want.Kind != 0, api.ErrState
	if there {
		no = api.OK
	}
	if is, err := simpl.Applies(e, at, rule); is != there || err != api.OK {
		t.Errorf("Applies %s at %d of %s: %v, error %d", simpl.Name(rule), at, brief(e), is, err)
	}
	got, err := simpl.Rewrite(e, at, rule)
	if err != no || there && !core.Same(got, want) || !there && !isZero(got) {
		t.Errorf("Rewrite %s at %d of %s: %s, error %d, want %s", simpl.Name(rule), at, brief(e), brief(got), err, brief(want))
	}
}

func isZero(e api.Expr) bool { return fmt.Sprint(e) == fmt.Sprint(api.Expr{}) }

// allRules are the rules' numbers.
func allRules() []int { return testkit.Span(api.RuleDead, api.RuleCaseLet) }

// nothingApplies tells whether no rule applies at any position; else at which one which rule does.
func nothingApplies(t *testing.T, e api.Expr) string {
	t.Helper()
	for at := range positions(e) {
		for _, rule := range allRules() {
			if applies(t, e, at, rule) {
				return fmt.Sprint(simpl.Name(rule), " at ", at)
			}
		}
	}
	return ""
}

// sorted are the keys of a map, so that tests go through it in one order.
func sorted[V any](m map[string]V) []string {
	var l []string
	for k := range m {
		l = append(l, k)
	}
	slices.Sort(l)
	return l
}

// repeated is a text so many times, with blanks between.
func repeated(text string, n int) string {
	return strings.Join(slices.Repeat([]string{text}, n), " ")
}

// numbered are so many texts, each with its number in the place of a %, with blanks between.
func numbered(text string, n int) string {
	var l []string
	for i := range n {
		l = append(l, strings.ReplaceAll(text, "%", fmt.Sprint(i)))
	}
	return strings.Join(l, " ")
}
