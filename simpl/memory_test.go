package simpl_test

import (
	"reflect"
	"testing"

	"thunkmill/api"
	"thunkmill/core"
	"thunkmill/simpl"
	"thunkmill/testkit"
)

// handedIn are expressions as they may be.
func handedIn() []api.Expr {
	l := madeExprs(176, 120, 6)
	for _, rule := range allRules() {
		l = append(l, read(redexes()[rule][0]))
	}
	all, _ := ofAllKinds()
	return append(l, all, read("(f (let x = (g 1); y = 2 in (case (case x of 1 -> y; z -> z) of w -> (\\ v -> (v w)))))"))
}

// answers calls f with each expression that comes of one, and what made it.
func answers(t *testing.T, e api.Expr, f func(what string, e api.Expr)) {
	t.Helper()
	for at := range core.Size(e) {
		part, err := simpl.At(e, at)
		if err != api.OK {
			t.Fatalf("At %d of %s: error %d", at, brief(e), err)
		}
		f("At", part)
		for _, rule := range allRules() {
			if applies(t, e, at, rule) {
				f("Rewrite "+simpl.Name(rule), rewritten(t, e, at, rule))
			}
		}
	}
	for _, most := range []int{0, 1, 2, 50} {
		got, _ := passed(t, e, most)
		f("Pass", got)
	}
}

// Rule 4: what is handed in is as it was, and its spare room counts nothing.
func TestHandedInStays(t *testing.T) {
	for _, plain := range handedIn() {
		e := testkit.SpareExpr(plain)
		was := testkit.WholeExpr(e)
		var want []string
		answers(t, plain, func(what string, e api.Expr) { want = append(want, what+": "+core.Text(e)) })
		answers(t, e, func(what string, got api.Expr) {
			if want[0] != what+": "+core.Text(got) {
				t.Fatalf("%s of %s: %s, want %s", what, brief(plain), brief(got), want[0])
			}
			want = want[1:]
			if !reflect.DeepEqual(testkit.WholeExpr(e), was) {
				t.Fatalf("%s has changed what was handed in: %s", what, brief(plain))
			}
		})
	}
}

// Rule 4: what is answered is new memory, of which no two parts are one.
func TestAnswersAreTheCallers(t *testing.T) {
	for _, plain := range handedIn() {
		e := testkit.SpareExpr(plain)
		was := testkit.WholeExpr(e)
		memory := testkit.Memory{}
		memory.OwnExpr(&e)
		answers(t, e, func(what string, got api.Expr) {
			text := core.Text(got)
			if !memory.OwnExpr(&got) {
				t.Fatalf("%s of %s: %s has parts in memory that is not its own", what, brief(plain), text)
			}
			testkit.OverwriteExpr(&got)
			if !reflect.DeepEqual(testkit.WholeExpr(e), was) {
				t.Fatalf("what was handed in heeds what %s has answered: %s", what, brief(plain))
			}
		})
	}
}

// Rule 4: an answer stays as it is, whatever is done to what was handed in.
func TestAnswersStay(t *testing.T) {
	for _, plain := range handedIn() {
		e := testkit.SpareExpr(plain)
		var got []api.Expr
		var want []string
		answers(t, e, func(what string, e api.Expr) { got, want = append(got, e), append(want, core.Text(e)) })
		testkit.OverwriteExpr(&e)
		for i := range got {
			if core.Text(got[i]) != want[i] {
				t.Fatalf("an answer heeds what was handed in: %s, want %s", brief(got[i]), want[i])
			}
		}
	}
}

// Rule 4: of programs likewise.
func TestProgramsMemory(t *testing.T) {
	m := seeded(178)
	for range 300 {
		p := testkit.SpareProg(m.Program())
		was := testkit.WholeProg(p)
		for _, most := range []int{0, 3, 1000} {
			memory := testkit.Memory{}
			memory.OwnProg(p)
			got, _, err := simpl.Program(p, most)
			text := core.ProgText(got)
			if err != api.OK || !memory.OwnProg(got) {
				t.Fatalf("Program of %s: error %d, %s has parts in memory that is not its own", core.ProgText(p), err, text)
			}
			testkit.OverwriteProg(got)
			if !reflect.DeepEqual(testkit.WholeProg(p), was) {
				t.Fatalf("what was handed in is changed, or heeds an answer: %s", core.ProgText(p))
			}
			if again, _, _ := simpl.Program(p, most); core.ProgText(again) != text {
				t.Fatalf("answers heed one another: %s, want %s", core.ProgText(again), text)
			}
		}
	}
}

// Rule 4: lists that are one in memory are several in what comes.
func TestSharedLists(t *testing.T) {
	body := list(read("(#add 1 2)"))
	lam := api.Expr{Kind: api.ExLam, Params: []string{"x"}, Args: body}
	e := api.Expr{Kind: api.ExApp, Args: list(variable("f"), lam, lam, body[0], body[0])}
	becomes(t, e, 3, api.RuleFold, "(f (\\ x -> 3) (\\ x -> (#add 1 2)) (#add 1 2) (#add 1 2))")
	becomes(t, e, 7, api.RuleFold, "(f (\\ x -> (#add 1 2)) (\\ x -> 3) (#add 1 2) (#add 1 2))")
	becomes(t, e, 13, api.RuleFold, "(f (\\ x -> (#add 1 2)) (\\ x -> (#add 1 2)) (#add 1 2) 3)")
	passIs(t, e, 2, "(f (\\ x -> 3) (\\ x -> 3) (#add 1 2) (#add 1 2))", 2)
	if core.Text(body[0]) != "(#add 1 2)" {
		t.Errorf("what was handed in is changed: %s", core.Text(body[0]))
	}
}

// Rule 8, T6: what a call answers hangs on what it is given alone: it is the same again, whatever was called in between, and from whatever goroutine.
func TestAgain(t *testing.T) {
	l := handedIn()
	for _, wrong := range testkit.Again(len(l), func(i int) string { return allTexts(t, l[i]) }) {
		t.Error(wrong)
	}
}

// allTexts are all answers in one text.
func allTexts(t *testing.T, e api.Expr) string {
	all := ""
	answers(t, e, func(what string, e api.Expr) { all += what + ": " + core.Text(e) + "\n" })
	return all
}
