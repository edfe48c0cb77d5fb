package simpl_test

import (
	"fmt"
	"testing"

	"thunkmill/api"
	"thunkmill/core"
	"thunkmill/simpl"
)

// ofAllKinds is an expression of all kinds, and what stands at each of its positions.
func ofAllKinds() (api.Expr, []string) {
	return read("(let a = (\\ p -> (p 1)); b = (Cons x (#add 2 '3')) in (case (f a) of Cons c d -> (c (Nil)); Nil -> 4; e -> (e b)))"), []string{
		"(let a = (\\ p -> (p 1)); b = (Cons x (#add 2 '3')) in (case (f a) of Cons c d -> (c (Nil)); Nil -> 4; e -> (e b)))",
		"(\\ p -> (p 1))", "(p 1)", "p", "1",
		"(Cons x (#add 2 '3'))", "x", "(#add 2 '3')", "2", "'3'",
		"(case (f a) of Cons c d -> (c (Nil)); Nil -> 4; e -> (e b))", "(f a)", "f", "a",
		"(c (Nil))", "c", "(Nil)", "4", "(e b)", "e", "b",
	}
}

// P17.1: At tells what stands at each position, with the names that it has there.
func TestAt(t *testing.T) {
	e, want := ofAllKinds()
	for at, text := range want {
		if got, err := simpl.At(e, at); core.Text(got) != text || err != api.OK {
			t.Errorf("At %d: %s, error %d, want %s", at, brief(got), err, text)
		}
	}
	for _, at := range []int{len(want), len(want) + 1, -1, 1 << 40, -1 << 63, 1<<63 - 1} {
		if got, err := simpl.At(e, at); !isZero(got) || err != api.ErrArg {
			t.Errorf("At %d: %s, error %d", at, brief(got), err)
		}
	}
	for _, text := range []string{"1", "x", "'7'", "(Nil)", "(#getc)"} {
		if got, err := simpl.At(read(text), 0); core.Text(got) != text || err != api.OK {
			t.Errorf("At 0 of %s: %s, error %d", text, brief(got), err)
		}
		if got, err := simpl.At(read(text), 1); !isZero(got) || err != api.ErrArg {
			t.Errorf("At 1 of %s: %s, error %d", text, brief(got), err)
		}
	}
}

// redexes are expressions to which a rule applies, and what becomes of them. Nothing but the name free is free in them.
func redexes() map[int][2]string {
	return map[int][2]string{
		api.RuleDead:     {"(let q = (free 1) in free)", "free"},
		api.RuleAtom:     {"(let q = free in (q q))", "(free free)"},
		api.RuleOnce:     {"(let q = (free 1) in (2 q))", "(2 (free 1))"},
		api.RuleBeta:     {"((\\ q -> (q q)) free)", "(let q = free in (q q))"},
		api.RuleCase:     {"(case (Blue free) of Blue q -> (q q))", "(let q = free in (q q))"},
		api.RuleCaseCase: {"(case (case free of 1 -> 2) of 3 -> free)", "(case free of 1 -> (case 2 of 3 -> free))"},
		api.RuleLetApp:   {"((let q = (free 1) in q) free)", "(let q = (free 1) in (q free))"},
		api.RuleLetCase:  {"(case (let q = (free 1) in q) of 1 -> free)", "(let q = (free 1) in (case q of 1 -> free))"},
		api.RuleFold:     {"(#add 20 3)", "23"},
		api.RuleSeq:      {"(#seq 7 free)", "free"},
		api.RuleAppApp:   {"((free 1) free)", "(free 1 free)"},
		api.RuleCaseLet:  {"(case free of q -> free)", "(case free of _ -> free)"},
	}
}

// P17.1: each rule within each part of each kind, where other names are bound, and at the last position.
func TestPlaces(t *testing.T) {
	around := []struct {
		at    int
		whole string // with a %s
	}{
		{0, "%s"},
		{1, "(let x = %s; y = (g 2) in (x y))"}, {4, "(let x = (f 1); y = %s in (x y))"}, {4, "(let x = (f 1) in %s)"},
		{1, "(%s 1)"}, {2, "(f %s 1)"}, {3, "(f 1 %s)"}, {3, "(f 1 %s (g 2))"},
		{1, "(\\ x -> %s)"}, {2, "(\\ x -> (\\ y -> %s))"},
		{1, "(case %s of Cons x y -> x; Nil -> 3)"}, {2, "(case f of Cons x y -> %s; Nil -> 3)"}, {3, "(case f of 1 -> 2; 3 -> %s; z -> z)"}, {4, "(case f of 1 -> 2; 3 -> z; z -> %s)"}, {3, "(case f of 1 -> x; _ -> %s)"},
		{1, "(Cons %s 2)"}, {2, "(Cons 1 %s)"}, {1, "(#add %s 2)"}, {2, "(#bind x %s)"},
		{8, "(let x = (\\ y -> (case y of Cons z w -> (z (#add w %s)); Nil -> 2)) in x)"},
		// Names of its own are free around it, or bound.
		{2, "(q %s q)"}, {1, "(\\ q -> %s)"}, {4, "(let q = q in (q %s))"}, {2, "(case q of Cons q v1 -> %s; Nil -> q)"},
		// What it has free is bound around it.
		{1, "(\\ free -> %s)"}, {2, "(let free = 1 in %s)"}, {1, "(let free = %s in free)"},
	}
	for _, rule := range allRules() {
		redex := redexes()[rule]
		for _, w := range around {
			e := read(fmt.Sprintf(w.whole, redex[0]))
			if got, err := simpl.At(e, w.at); core.Text(got) != redex[0] || err != api.OK {
				t.Fatalf("the test's position %d is wrong: %s", w.at, w.whole)
			}
			becomes(t, e, w.at, rule, fmt.Sprintf(w.whole, redex[1]))
		}
	}
}

// P17.1: the last position is one, at which no rule applies, since what stands there has no parts; behind it is none.
func TestLastPosition(t *testing.T) {
	for _, rule := range allRules() {
		e := read("(f " + redexes()[rule][0] + ")")
		last := positions(e) - 1
		becomes(t, e, last, rule, "")
		for _, f := range []func(at int) api.Errno{
			func(at int) api.Errno { _, err := simpl.Applies(e, at, rule); return err },
			func(at int) api.Errno { _, err := simpl.Rewrite(e, at, rule); return err },
		} {
			if err := f(last + 1); err != api.ErrArg {
				t.Errorf("%s behind the last position: error %d", simpl.Name(rule), err)
			}
		}
	}
}

// P17.1: a rule applies to the expression at the position alone.
func TestElsewhere(t *testing.T) {
	for _, rule := range allRules() {
		e := read("(f " + redexes()[rule][0] + " " + redexes()[rule][0] + " 1)")
		n := (positions(e) - 3) / 2
		for at := range positions(e) {
			if is := applies(t, e, at, rule); is != (at == 2 || at == 2+n) {
				t.Errorf("%s at %d of %s: %v", simpl.Name(rule), at, brief(e), is)
			}
		}
		redex := redexes()[rule]
		becomes(t, e, 2, rule, "(f "+redex[1]+" "+redex[0]+" 1)")
		becomes(t, e, 2+n, rule, "(f "+redex[0]+" "+redex[1]+" 1)")
	}
}
