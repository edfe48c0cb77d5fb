package simpl_test

import (
	"testing"

	"thunkmill/api"
)

// told is an expression, and what becomes of it at a position; nothing, if the rule does not apply.
type told struct {
	at      int
	e, want string
}

func allBecome(t *testing.T, rule int, l []told) {
	t.Helper()
	for _, c := range l {
		becomes(t, read(c.e), c.at, rule, c.want)
	}
}

// P17.1: a binding whose name stands nowhere in its scope, the first such.
func TestDead(t *testing.T) {
	allBecome(t, api.RuleDead, []told{
		{0, "(let x = (f 1) in 2)", "2"},
		{0, "(let x = (f 1) in y)", "y"},
		{0, "(let x = (f 1) in (let y = 2 in y))", "(let y = 2 in y)"},
		{0, "(let x = (f 1); y = (g 2) in y)", "(let y = (g 2) in y)"},
		{0, "(let x = (f 1); y = (g 2) in x)", "(let x = (f 1) in x)"},
		{0, "(let x = (f 1); y = (g 2); z = (h 3) in y)", "(let y = (g 2); z = (h 3) in y)"},
		{0, "(let x = (f 1); y = (g 2); z = (h 3) in (x z))", "(let x = (f 1); z = (h 3) in (x z))"},
		{0, "(let x = (f 1); y = (g 2); z = (h 3) in (x y))", "(let x = (f 1); y = (g 2) in (x y))"},
		{0, "(let x = (f 1); y = (g 2); z = (h 3) in 4)", "(let y = (g 2); z = (h 3) in 4)"},
		// A number is as dead as all others.
		{0, "(let x = 1 in 2)", "2"},
		// What is dead but for its own binding, or for another dead one, is not.
		{0, "(let x = (f x) in 2)", ""},
		{0, "(let x = (f y); y = (g x) in 2)", ""},
		{0, "(let x = (f y); y = (g 1) in 2)", "(let y = (g 1) in 2)"},
		{0, "(let x = (f 1); y = (g x) in 2)", "(let x = (f 1) in 2)"},
		// Where another one of that name is meant.
		{0, "(let x = (f 1) in (\\ x -> x))", "(\\ y -> y)"},
		{0, "(let x = (f 1) in (let x = 3 in x))", "(let x = 3 in x)"},
		{0, "(let x = (f 1) in (case y of Cons x z -> x; Nil -> 2))", "(case y of Cons x z -> x; Nil -> 2)"},
		{0, "(let x = (f 1) in (case y of x -> x))", "(case y of x -> x)"},
		{0, "(let x = (f 1) in (case y of Cons x z -> x; Nil -> x))", ""},
		{1, "(x (let x = (f 1) in 2))", ""},
		{2, "(x (let x = (f x) in 2))", ""},
		{2, "(x (let x = y in 2))", "(x 2)"},
		// What occurs.
		{0, "(let x = (f 1) in x)", ""},
		{0, "(let x = (f 1) in (\\ y -> x))", ""},
		{0, "(let x = (f 1) in (case z of 1 -> x; _ -> 2))", ""},
		{0, "(let x = (f 1) in (x x))", ""},
		{0, "(let x = (f 1); y = (g x) in y)", ""},
		// What is no let, though a name is dead.
		{0, "((\\ x -> 1) 2)", ""},
		{1, "((\\ x -> 1) 2)", ""},
		{0, "(case 1 of x -> 2)", ""},
		{0, "x", ""},
		{0, "1", ""},
		{0, "'97'", ""},
		{0, "(Nil)", ""},
		{0, "(#add 1 2)", ""},
	})
}

// P17.1: a binding that is a number, a character, or a variable of none of the let's own names, the first such.
func TestAtom(t *testing.T) {
	allBecome(t, api.RuleAtom, []told{
		{0, "(let x = 1 in x)", "1"},
		{0, "(let x = -9223372036854775808 in (x x))", "(-9223372036854775808 -9223372036854775808)"},
		{0, "(let x = '255' in (f x x))", "(f '255' '255')"},
		{0, "(let x = y in (x y))", "(y y)"},
		{0, "(let x = main in x)", "main"},
		{0, "(let x = 1 in y)", "y"},
		{0, "(let x = 1 in (\\ z -> (x z)))", "(\\ z -> (1 z))"},
		// The first of several.
		{0, "(let x = 1; y = 2 in (x y))", "(let y = 2 in (1 y))"},
		{0, "(let x = (f y); y = 2; z = 3 in (x y z))", "(let x = (f 2); z = 3 in (x 2 z))"},
		{0, "(let x = (f y); y = (g z); z = '3' in (x y z))", "(let x = (f y); y = (g '3') in (x y '3'))"},
		{0, "(let x = (f x y); y = a in (x y))", "(let x = (f x a) in (x a))"},
		// One of the let's own names is none.
		{0, "(let x = x in x)", ""},
		{0, "(let x = x in 1)", ""},
		{0, "(let x = y; y = (f x) in x)", ""},
		{0, "(let x = y; y = x in x)", ""},
		{0, "(let x = y; y = (f 1) in x)", ""},
		{0, "(let y = (f 1); x = y in x)", ""},
		{0, "(let x = y; y = 3 in (x y))", "(let x = 3 in (x 3))"},
		{0, "(let x = y; y = z in (x y))", "(let x = z in (x z))"},
		{0, "(let x = x; y = z in (x y))", "(let x = x in (x z))"},
		{2, "(let x = (let y = x in (f y)) in x)", ""},
		{1, "(let x = (let y = x in (f y)) in x)", "(let x = (f x) in x)"},
		{2, "(let x = (f 1) in (let y = x in (f y)))", ""},
		{4, "(let x = (f 1) in (let y = x in (f y)))", "(let x = (f 1) in (f x))"},
		// What is neither.
		{0, "(let x = (f 1) in x)", ""},
		{0, "(let x = (\\ y -> y) in x)", ""},
		{0, "(let x = (Nil) in x)", ""},
		{0, "(let x = (#add 1 2) in x)", ""},
		{0, "(let x = (#getc) in x)", ""},
		{0, "(let x = (case 1 of 1 -> 2) in x)", ""},
		{0, "(let x = (let y = 1 in y) in x)", ""},
		{0, "((\\ x -> x) 1)", ""},
		{0, "(case 1 of x -> x)", ""},
		{0, "1", ""},
		{0, "x", ""},
		// Where another one of that name is meant.
		{0, "(let x = 1 in (x (\\ x -> x)))", "(1 (\\ x -> x))"},
		{0, "(let x = 1; y = (let x = 2 in x) in (x y))", "(let y = (let x = 2 in x) in (1 y))"},
		{0, "(let x = 1 in (case x of Cons x y -> x; Nil -> x))", "(case 1 of Cons x y -> x; Nil -> 1)"},
		// What would be caught.
		{0, "(let x = y in (\\ y -> (x y)))", "(\\ z -> (y z))"},
		{0, "(let x = y in (\\ y z -> (x y z)))", "(\\ a b -> (y a b))"},
		{0, "(let x = y in (let y = (x y) in y))", "(let z = (y z) in z)"},
		{0, "(let x = y in (case x of Cons y z -> (x y z); Nil -> y))", "(case y of Cons a b -> (y a b); Nil -> y)"},
		{0, "(let x = y in (case x of y -> (x y)))", "(case y of z -> (y z))"},
		{0, "(let x = y; f = (\\ y -> (x y)) in (f x))", "(let f = (\\ z -> (y z)) in (f y))"},
		{0, "(let x = v1 in (\\ v1 -> (x v1)))", "(\\ z -> (v1 z))"},
	})
}

// P17.1: one binding, its name not free in it, at one place of the body that is within no lambda.
func TestOnce(t *testing.T) {
	allBecome(t, api.RuleOnce, []told{
		{0, "(let x = (f 1) in x)", "(f 1)"},
		{0, "(let x = (f 1) in (g x 2))", "(g (f 1) 2)"},
		{0, "(let x = (f 1) in (x 2))", "((f 1) 2)"},
		{0, "(let x = 1 in (#add 2 x))", "(#add 2 1)"},
		{0, "(let x = y in (#seq 2 x))", "(#seq 2 y)"},
		{0, "(let x = (Nil) in (Cons 1 x))", "(Cons 1 (Nil))"},
		{0, "(let x = (f 1) in (let y = (g x) in (y y)))", "(let y = (g (f 1)) in (y y))"},
		{0, "(let x = (f 1) in (let y = (g y) in (y x)))", "(let y = (g y) in (y (f 1)))"},
		{0, "(let x = (f 1) in (case x of 1 -> 2; _ -> 3))", "(case (f 1) of 1 -> 2; _ -> 3)"},
		{0, "(let x = (f 1) in (case y of 1 -> x; _ -> 3))", "(case y of 1 -> (f 1); _ -> 3)"},
		{0, "(let x = (f 1) in (case y of 1 -> 2; z -> (x z)))", "(case y of 1 -> 2; z -> ((f 1) z))"},
		// More often, or nowhere.
		{0, "(let x = (f 1) in 2)", ""},
		{0, "(let x = (f 1) in (x x))", ""},
		{0, "(let x = (f 1) in (case y of 1 -> x; _ -> x))", ""},
		{0, "(let x = (f 1) in (case x of 1 -> x; _ -> 2))", ""},
		{0, "(let x = (\\ y -> y) in (case y of 1 -> x; _ -> x))", ""},
		{0, "(let x = (\\ y -> y) in (x x))", ""},
		{0, "(let x = (\\ y -> y) in 2)", ""},
		// Within a lambda: a lambda alone.
		{0, "(let x = (f 1) in (\\ y -> x))", ""},
		{0, "(let x = 1 in (\\ y -> x))", ""},
		{0, "(let x = z in (\\ y -> x))", ""},
		{0, "(let x = (Nil) in (\\ y -> x))", ""},
		{0, "(let x = (let w = 1 in (\\ y -> y)) in (\\ y -> x))", ""},
		{0, "(let x = (\\ y -> y) in (\\ z -> (x z)))", "(\\ z -> ((\\ y -> y) z))"},
		{0, "(let x = (\\ y -> (f y)) in (\\ a -> (\\ b -> x)))", "(\\ a -> (\\ b -> (\\ y -> (f y))))"},
		{0, "(let x = (\\ y -> y) in (case 1 of 1 -> (\\ z -> x); _ -> 2))", "(case 1 of 1 -> (\\ z -> (\\ y -> y)); _ -> 2)"},
		{0, "(let x = (\\ y -> y) in (let g = (\\ z -> (x (g z))) in (g g)))", "(let g = (\\ z -> ((\\ y -> y) (g z))) in (g g))"},
		{0, "(let x = (\\ y -> y) in (\\ z -> (x x)))", ""},
		{0, "(let x = (\\ y -> y) in ((\\ z -> x) x))", ""},
		{0, "(let x = (\\ y -> y) in (x 1))", "((\\ y -> y) 1)"},
		// Free in its own binding.
		{0, "(let x = (f x) in x)", ""},
		{0, "(let x = (f x) in 1)", ""},
		{0, "(let x = (\\ y -> (x y)) in (x 1))", ""},
		{0, "(let x = (\\ y -> (x y)) in 1)", ""},
		{0, "(let x = (\\ y -> (x y)) in (\\ z -> x))", ""},
		{0, "(let x = x in x)", ""},
		{0, "(let x = (f (\\ x -> x)) in x)", "(f (\\ x -> x))"},
		{0, "(let x = (let x = (f x) in (x x)) in x)", "(let x = (f x) in (x x))"},
		// Several bindings.
		{0, "(let x = (f 1); y = (g 2) in x)", ""},
		{0, "(let x = (f 1); y = (g x) in y)", ""},
		{0, "(let x = (f 1); y = 2 in (x y))", ""},
		// Where another one of that name is meant.
		{0, "(let x = (f 1) in ((\\ x -> x) x))", "((\\ x -> x) (f 1))"},
		{0, "(let x = (f 1) in (\\ x -> x))", ""},
		{0, "(let x = (f 1) in (x (let x = 2 in (x x))))", "((f 1) (let x = 2 in (x x)))"},
		{0, "(let x = (f 1) in (case x of Cons x y -> x; Nil -> 2))", "(case (f 1) of Cons x y -> x; Nil -> 2)"},
		// What would be caught.
		{0, "(let x = (f y) in (let y = 1 in (x y y)))", "(let z = 1 in ((f y) z z))"},
		{0, "(let x = (\\ z -> y) in (\\ y -> (x y)))", "(\\ a -> ((\\ z -> y) a))"},
		{0, "(let x = (f y z) in (case w of Cons y z -> (x y z); Nil -> 1))", "(case w of Cons a b -> ((f y z) a b); Nil -> 1)"},
		{0, "(let x = (f y) in (case w of y -> (x y)))", "(case w of z -> ((f y) z))"},
		{0, "(let x = (f y v1) in (let y = 1; v1 = 2 in (x y v1)))", "(let a = 1; b = 2 in ((f y v1) a b))"},
		// What is no let.
		{0, "((\\ x -> x) 1)", ""},
		{0, "(case (f 1) of x -> x)", ""},
		{0, "x", ""},
	})
}
