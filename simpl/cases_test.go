package simpl_test

import (
	"testing"

	"thunkmill/api"
)

// P17.1: a case of a constructor, a number, a character: the first alternative that fits.
func TestCase(t *testing.T) {
	allBecome(t, api.RuleCase, []told{
		{0, "(case (Cons 1 (Nil)) of Nil -> 2; Cons a b -> (a b))", "(let a = 1; b = (Nil) in (a b))"},
		{0, "(case (Nil) of Nil -> (f 2); Cons a b -> a)", "(f 2)"},
		{0, "(case (Pair (f 1) y) of Pair a b -> b)", "(let a = (f 1); b = y in b)"},
		{0, "(case (Any 1 2 3) of Any a b c -> (c b a))", "(let a = 1; b = 2; c = 3 in (c b a))"},
		{0, "(case (Blue 1) of Blue a -> 7)", "(let a = 1 in 7)"},
		{0, "(case 1 of 0 -> 2; 1 -> 3; 2 -> 4)", "3"},
		{0, "(case -9223372036854775808 of -9223372036854775808 -> x)", "x"},
		{0, "(case '97' of '98' -> 2; '97' -> 3)", "3"},
		// An alternative for all others, with a name and without.
		{0, "(case 1 of 0 -> 2; x -> (x x))", "(let x = 1 in (x x))"},
		{0, "(case 1 of 0 -> 2; _ -> (f 3))", "(f 3)"},
		{0, "(case 1 of 1 -> 2; x -> (x x))", "2"},
		{0, "(case 1 of x -> x)", "(let x = 1 in x)"},
		{0, "(case 1 of x -> 2)", "(let x = 1 in 2)"},
		{0, "(case '97' of '98' -> 2; x -> x)", "(let x = '97' in x)"},
		{0, "(case '97' of _ -> 2)", "2"},
		{0, "(case (Cons 1 2) of Nil -> 3; x -> (x x))", "(let x = (Cons 1 2) in (x x))"},
		{0, "(case (Cons 1 2) of Nil -> 3; _ -> (x x))", "(x x)"},
		{0, "(case (Nil) of x -> x)", "(let x = (Nil) in x)"},
		{0, "(case (Nil) of _ -> 1)", "1"},
		// One of a constructor has as many names as there are parts.
		{0, "(case (Any 1 2) of Any a -> a)", ""},
		{0, "(case (Any 1 2) of Any a b c -> a)", ""},
		{0, "(case (Any 1) of Any -> 2)", ""},
		{0, "(case (Any) of Any a -> a)", ""},
		{0, "(case (Any 1 2) of Any a -> a; _ -> 3)", "3"},
		{0, "(case (Any 1 2) of Any a -> a; x -> x)", "(let x = (Any 1 2) in x)"},
		{0, "(case (Any 1 2) of Other a b -> a; _ -> 3)", "3"},
		// A number is no character of that code, a constructor neither.
		{0, "(case 97 of '97' -> 1)", ""},
		{0, "(case '97' of 97 -> 1)", ""},
		{0, "(case 97 of '97' -> 1; _ -> 2)", "2"},
		{0, "(case '97' of 97 -> 1; x -> x)", "(let x = '97' in x)"},
		{0, "(case (Any) of 0 -> 1; _ -> 2)", "2"},
		{0, "(case (Any) of '0' -> 1; _ -> 2)", "2"},
		{0, "(case 0 of Any -> 1; _ -> 2)", "2"},
		{0, "(case '0' of Any -> 1; _ -> 2)", "2"},
		// None fits.
		{0, "(case 1 of 2 -> 3)", ""},
		{0, "(case 1 of 0 -> 3; 2 -> 3; -1 -> 4)", ""},
		{0, "(case '97' of '98' -> 3)", ""},
		{0, "(case (Nil) of Cons a b -> 3)", ""},
		{0, "(case (Cons 1 2) of Nil -> 3)", ""},
		{0, "(case (Nil) of 1 -> 3)", ""},
		{0, "(case 1 of Nil -> 3)", ""},
		// What is not yet a value, or is another one.
		{0, "(case x of y -> y)", ""},
		{0, "(case x of _ -> 1)", ""},
		{0, "(case (\\ x -> x) of y -> y)", ""},
		{0, "(case (\\ x -> x) of _ -> 1)", ""},
		{0, "(case (#add 1 2) of 3 -> 4; _ -> 5)", ""},
		{0, "(case (f 1) of _ -> 5)", ""},
		{0, "(case (let x = 1 in x) of _ -> 5)", ""},
		{0, "(case (case 1 of 1 -> 2) of _ -> 5)", ""},
		{0, "(#seq 1 2)", ""},
		{0, "(f 1)", ""},
		{0, "1", ""},
		{0, "(Nil)", ""},
		{1, "(case (Nil) of Nil -> 1)", ""},
	})
}

// P17.1: names that stand free in the parts mean others there.
func TestCaseNames(t *testing.T) {
	allBecome(t, api.RuleCase, []told{
		{0, "(case (Cons a (f b)) of Cons a b -> (a b))", "(let x = a; y = (f b) in (x y))"},
		{0, "(case (Cons b a) of Cons a b -> (a b))", "(let x = b; y = a in (x y))"},
		{0, "(case (Cons 1 (f a)) of Nil -> 2; a -> (a a))", "(let x = (Cons 1 (f a)) in (x x))"},
		{0, "(case (Cons (\\ a -> a) a) of Cons a b -> (a (\\ a -> a)))", "(let x = (\\ a -> a); y = a in (x (\\ a -> a)))"},
		{0, "(case (Cons v1 v2) of Cons v2 v1 -> (v1 v2))", "(let x = v1; y = v2 in (y x))"},
		{0, "(case (Pair a a) of Pair a b -> (case b of Pair a b -> (a b)))", "(let x = a; y = a in (case y of Pair a b -> (a b)))"},
	})
}

// P17.1: a case of a case: each inner alternative gets the outer ones.
func TestCaseCase(t *testing.T) {
	allBecome(t, api.RuleCaseCase, []told{
		{0, "(case (case x of 1 -> 2; _ -> 3) of 2 -> 4; 3 -> 5)", "(case x of 1 -> (case 2 of 2 -> 4; 3 -> 5); _ -> (case 3 of 2 -> 4; 3 -> 5))"},
		{0, "(case (case (f 1) of Cons a b -> a; Nil -> y) of 1 -> 2; z -> z)", "(case (f 1) of Cons a b -> (case a of 1 -> 2; z -> z); Nil -> (case y of 1 -> 2; z -> z))"},
		{0, "(case (case x of y -> (f y)) of z -> (g z))", "(case x of y -> (case (f y) of z -> (g z)))"},
		{0, "(case (case (case x of 1 -> 2) of 3 -> 4) of 5 -> 6)", "(case (case x of 1 -> 2) of 3 -> (case 4 of 5 -> 6))"},
		{1, "(case (case (case x of 1 -> 2) of 3 -> 4) of 5 -> 6)", "(case (case x of 1 -> (case 2 of 3 -> 4)) of 5 -> 6)"},
		// The inner names in the outer alternatives mean others.
		{0, "(case (case x of Cons a b -> (a b); c -> c) of 1 -> (a b c); _ -> d)", "(case x of Cons p q -> (case (p q) of 1 -> (a b c); _ -> d); r -> (case r of 1 -> (a b c); _ -> d))"},
		{0, "(case (case x of x -> x) of y -> (x y))", "(case x of z -> (case z of y -> (x y)))"},
		{0, "(case (case x of Cons v1 v2 -> v1; y -> y) of z -> (v1 v2 y z))", "(case x of Cons a b -> (case a of z -> (v1 v2 y z)); c -> (case c of z -> (v1 v2 y z)))"},
		{0, "(case (case x of 1 -> y; z -> z) of y -> (\\ z -> (y z)))", "(case x of 1 -> (case y of a -> (\\ b -> (a b))); c -> (case c of a -> (\\ b -> (a b))))"},
		// What is no case of a case.
		{0, "(case x of 1 -> (case y of 2 -> 3))", ""},
		{0, "(case (f (case x of 1 -> 2)) of 3 -> 4)", ""},
		{0, "(case (let y = 1 in (case x of 1 -> 2)) of 3 -> 4)", ""},
		{0, "((case x of 1 -> 2) 3)", ""},
		{0, "(#seq (case x of 1 -> 2) 3)", ""},
		{0, "(Cons (case x of 1 -> 2) 3)", ""},
		{0, "(case x of 1 -> 2)", ""},
		{0, "x", ""},
	})
}

// P17.1: the alternatives have 12 expressions together at most, or the inner case has one alternative.
func TestCaseCaseOfMany(t *testing.T) {
	e11, e12, e13 := "(f "+repeated("1", 9)+")", "(f "+repeated("1", 10)+")", "(f "+repeated("1", 11)+")"
	for _, alts := range []string{"_ -> " + e12, "x -> " + e12, "1 -> " + e11 + "; 2 -> 3", "1 -> 3; _ -> " + e11, "1 -> (f 1 1 1 1); 2 -> (\\ x -> (\\ y -> (x y))); 3 -> z"} {
		inner := "(case y of 1 -> (a 1); w -> (w 2))"
		becomes(t, read("(case "+inner+" of "+alts+")"), 0, api.RuleCaseCase, "(case y of 1 -> (case (a 1) of "+alts+"); w -> (case (w 2) of "+alts+"))")
	}
	for _, alts := range []string{"_ -> " + e13, "x -> " + e13, "1 -> " + e12 + "; 2 -> 3", "1 -> 3; _ -> " + e12, "1 -> (f 1 1 1 1); 2 -> (\\ x -> (\\ y -> (x y))); 3 -> z; _ -> z", "1 -> 1; 2 -> 2; 3 -> 3; 4 -> 4; 5 -> 5; 6 -> 6; 7 -> 7; 8 -> 8; 9 -> 9; 10 -> 10; 11 -> 11; 12 -> 12; _ -> 13"} {
		for _, inner := range []string{"(case y of 1 -> 2; _ -> 3)", "(case y of Cons a b -> a; Nil -> 1)", "(case y of 1 -> 1; 2 -> 2; 3 -> 3)"} {
			becomes(t, read("(case "+inner+" of "+alts+")"), 0, api.RuleCaseCase, "")
		}
		for _, head := range []string{"(case y of 1 -> ", "(case y of Cons p q -> ", "(case y of _ -> ", "(case y of p -> "} {
			becomes(t, read("(case "+head+"(g 2)) of "+alts+")"), 0, api.RuleCaseCase, head+"(case (g 2) of "+alts+"))")
		}
	}
	// Nothing but the alternatives' expressions counts.
	becomes(t, read("(case (case "+e13+" of 1 -> "+e13+"; _ -> 3) of 2 -> 4)"), 0, api.RuleCaseCase, "(case "+e13+" of 1 -> (case "+e13+" of 2 -> 4); _ -> (case 3 of 2 -> 4))")
	// In other parts than an application's, too.
	deep := "(let a = (let b = 1; c = 2 in (b c)) in (case a of 1 -> 2; _ -> (\\ d -> d)))" // 12
	becomes(t, read("(case (case y of 1 -> 2; _ -> 3) of _ -> "+deep+")"), 0, api.RuleCaseCase, "(case y of 1 -> (case 2 of _ -> "+deep+"); _ -> (case 3 of _ -> "+deep+"))")
	becomes(t, read("(case (case y of 1 -> 2; _ -> 3) of _ -> (#ord "+deep+"))"), 0, api.RuleCaseCase, "")
}

// P17.1: a case of a let.
func TestLetCase(t *testing.T) {
	allBecome(t, api.RuleLetCase, []told{
		{0, "(case (let x = (f 1) in (g x)) of 1 -> 2; _ -> 3)", "(let x = (f 1) in (case (g x) of 1 -> 2; _ -> 3))"},
		{0, "(case (let x = y; y = x in x) of Cons a b -> a; Nil -> 3)", "(let x = y; y = x in (case x of Cons a b -> a; Nil -> 3))"},
		{0, "(case (let x = 1 in (let y = 2 in y)) of z -> z)", "(let x = 1 in (case (let y = 2 in y) of z -> z))"},
		// The let's names in the alternatives mean others.
		{0, "(case (let x = 1 in x) of 1 -> x; y -> (x y))", "(let z = 1 in (case z of 1 -> x; y -> (x y)))"},
		{0, "(case (let x = (f y); y = 2 in x) of Cons a b -> (x a); Nil -> (y x))", "(let p = (f q); q = 2 in (case p of Cons a b -> (x a); Nil -> (y x)))"},
		{0, "(case (let x = 1 in x) of x -> x)", "(let y = 1 in (case y of x -> x))"},
		{0, "(case (let x = 1 in x) of Cons x y -> x; Nil -> (\\ x -> x))", "(let a = 1 in (case a of Cons x y -> x; Nil -> (\\ x -> x)))"},
		{0, "(case (let v1 = 1 in v1) of _ -> v1)", "(let z = 1 in (case z of _ -> v1))"},
		// What is no case of a let.
		{0, "(case x of 1 -> (let y = 2 in y))", ""},
		{0, "(case (f (let x = 1 in x)) of 1 -> 2)", ""},
		{0, "(let x = 1 in (case x of 1 -> 2))", ""},
		{0, "((let x = 1 in x) 2)", ""},
		{0, "(#seq (let x = 1 in x) 2)", ""},
		{0, "(case (case y of 1 -> (let x = 1 in x)) of 1 -> 2)", ""},
		{0, "x", ""},
	})
}

// P17.1: a case with one alternative, for all others, whose name stands nowhere.
func TestCaseLet(t *testing.T) {
	allBecome(t, api.RuleCaseLet, []told{
		{0, "(case (f 1) of x -> 2)", "(case (f 1) of _ -> 2)"},
		{0, "(case 1 of x -> y)", "(case 1 of _ -> y)"},
		{0, "(case x of x -> 2)", "(case x of _ -> 2)"},
		{0, "(case (f x) of x -> (\\ x -> x))", "(case (f x) of _ -> (\\ x -> x))"},
		{0, "(case y of x -> (let x = 1 in x))", "(case y of _ -> (let x = 1 in x))"},
		{0, "(case y of x -> (case y of x -> x))", "(case y of _ -> (case y of x -> x))"},
		// A name that stands somewhere, no name.
		{0, "(case (f 1) of x -> x)", ""},
		{0, "(case (f 1) of x -> (\\ y -> x))", ""},
		{0, "(case (f 1) of x -> (let x = x in x))", "(case (f 1) of _ -> (let x = x in x))"},
		{0, "(case (f 1) of x -> (x (let x = x in x)))", ""},
		{0, "(case (f 1) of x -> (case y of Cons x z -> 1; Nil -> x))", ""},
		{0, "(case (f 1) of _ -> 2)", ""},
		// Several alternatives, another one.
		{0, "(case (f 1) of 1 -> 2; x -> 3)", ""},
		{0, "(case (f 1) of Nil -> 2; x -> 3)", ""},
		{0, "(case (f 1) of Blue x -> 2)", ""},
		{0, "(case (f 1) of Nil -> 2)", ""},
		{0, "(case (f 1) of 1 -> 2)", ""},
		{0, "(case (f 1) of '1' -> 2)", ""},
		// What is no case.
		{0, "(let x = (f 1) in 2)", ""},
		{0, "((\\ x -> 2) 1)", ""},
		{0, "x", ""},
	})
}
