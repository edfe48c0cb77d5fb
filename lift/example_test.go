package lift_test

import (
	"testing"

	"thunkmill/core"
	"thunkmill/lift"
	"thunkmill/testkit"
)

// P19.1, P19.2: the chapter's examples, with names that are unlike each other.
func TestExamples(t *testing.T) {
	lifts(t, "(\\ y -> (let f = (\\ x -> (#add x y)) in (f 1)))", "(\\ y -> (~1 y 1))", "~1 = (\\ a x -> (#add x a))")
	stays(t, "(let f = (\\ x -> x) in (g f))")
	stays(t, "(let f = (\\ x z -> x) in (f 1))")
	knows(t, "(let f = (\\ x -> x) in (g f))", false)
	knows(t, "(let f = (\\ x z -> x) in (f 1))", false)
	knows(t, "(let f = (\\ x -> (#add x y)) in (f 1))", true)
	knows(t, "(let f = (\\ x -> (g x)); g = (\\ x -> (f x)) in (f 1))", true)
	p := testkit.Prog("main = (let f = (\\ x -> (g x)); g = (\\ z -> (f z)) in (f 1))")
	if q, want := lifted(t, p), testkit.Prog("main = (~1 1)", "~1 = (\\ x -> (~2 x))", "~2 = (\\ x -> (~1 x))"); !core.SameProg(q, want) || lift.Count(p) != 1 {
		t.Errorf("Lift of %s: %s", brief(p), brief(q))
	}
}
