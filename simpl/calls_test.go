package simpl_test

import (
	"testing"

	"thunkmill/api"
)

// P17.1: an application of a lambda to as many arguments as it has names, to more, to fewer.
func TestBeta(t *testing.T) {
	allBecome(t, api.RuleBeta, []told{
		{0, "((\\ x -> (x x)) 1)", "(let x = 1 in (x x))"},
		{0, "((\\ x y -> (x y)) (f 1) (g 2))", "(let x = (f 1); y = (g 2) in (x y))"},
		{0, "((\\ x y z -> y) 1 2 3)", "(let x = 1; y = 2; z = 3 in y)"},
		{0, "((\\ x -> 7) 1)", "(let x = 1 in 7)"},
		// More.
		{0, "((\\ x -> (x x)) 1 2)", "((let x = 1 in (x x)) 2)"},
		{0, "((\\ x y -> (x y)) 1 2 3 4)", "((let x = 1; y = 2 in (x y)) 3 4)"},
		// Fewer.
		{0, "((\\ x y -> (x y)) 1)", ""},
		{0, "((\\ x y z -> (x y)) 1 2)", ""},
		// Names that stand free in the arguments mean others there.
		{0, "((\\ x -> (x y)) x)", "(let z = x in (z y))"},
		{0, "((\\ x y -> (x y)) y x)", "(let a = y; b = x in (a b))"},
		{0, "((\\ x y -> (x y)) (f x y) (g y x))", "(let a = (f x y); b = (g y x) in (a b))"},
		{0, "((\\ x -> (x y)) 1 x)", "((let z = 1 in (z y)) x)"},
		{0, "((\\ x -> (x (\\ x -> x))) (\\ x -> x))", "(let x = (\\ x -> x) in (x (\\ x -> x)))"},
		{0, "((\\ v1 x -> (v1 x)) x v1)", "(let a = x; b = v1 in (a b))"},
		// What is no application of a lambda.
		{0, "(f 1)", ""},
		{0, "((f 1) 2)", ""},
		{0, "((let f = (\\ x -> x) in f) 1)", ""},
		{0, "((let f = 1 in (\\ x -> x)) 1)", ""},
		{0, "((case 1 of 1 -> (\\ x -> x)) 1)", ""},
		{0, "(f (\\ x -> x))", ""},
		{0, "(\\ x -> x)", ""},
		{0, "(#seq (\\ x -> x) 1)", ""},
		{0, "(Cons (\\ x -> x) 1)", ""},
		{0, "(let x = (\\ x -> x) in x)", ""},
		{0, "(case (\\ x -> x) of y -> y)", ""},
	})
}

// P17.1: as many names and arguments as there may be.
func TestBetaOfMany(t *testing.T) {
	names, args := numbered("x%", 32), numbered("(f %)", 32)
	call := "((\\ " + names + " -> (x31 x0)) " + args + ")"
	want := read("(let x = 1 in (x31 x0))")
	want.Binds = nil
	for i, a := range read("(g " + args + ")").Args[1:] {
		want.Binds = append(want.Binds, api.Bind{Name: read(call).Args[0].Params[i], E: a})
	}
	becomesExpr(t, read(call), 0, api.RuleBeta, want)
	becomes(t, read("((\\ "+names+" -> (x31 x0)) "+numbered("(f %)", 31)+")"), 0, api.RuleBeta, "")
	becomes(t, read("((\\ x -> (x x)) "+args+")"), 0, api.RuleBeta, "((let x = (f 0) in (x x)) "+args[len("(f 0) "):]+")")
}

// P17.1: an application of a let.
func TestLetApp(t *testing.T) {
	allBecome(t, api.RuleLetApp, []told{
		{0, "((let x = 1 in f) 2)", "(let x = 1 in (f 2))"},
		{0, "((let x = (g 1); y = (h x) in (x y)) 2 3 4)", "(let x = (g 1); y = (h x) in ((x y) 2 3 4))"},
		{0, "((let x = (g 1) in (let y = 2 in y)) 3)", "(let x = (g 1) in ((let y = 2 in y) 3))"},
		{0, "((let x = x in (\\ y -> x)) 1)", "(let x = x in ((\\ y -> x) 1))"},
		// The let's names in the arguments mean others.
		{0, "((let x = 1 in (f x)) x)", "(let z = 1 in ((f z) x))"},
		{0, "((let x = (g y x); y = 2 in (x y)) y (h x))", "(let a = (g b a); b = 2 in ((a b) y (h x)))"},
		{0, "((let x = 1 in (f x)) (\\ x -> x) (let x = x in x))", "(let x = 1 in ((f x) (\\ x -> x) (let x = x in x)))"},
		{0, "((let v1 = 1 in v1) v1)", "(let z = 1 in (z v1))"},
		// What is no application of a let.
		{0, "(f (let x = 1 in x))", ""},
		{0, "((f (let x = 1 in x)) 2)", ""},
		{0, "((\\ y -> (let x = 1 in x)) 2)", ""},
		{0, "(let x = 1 in (x 2))", ""},
		{0, "(#seq (let x = 1 in x) 2)", ""},
		{0, "(Cons (let x = 1 in x) 2)", ""},
		{0, "(case (let x = 1 in x) of y -> y)", ""},
		{0, "(f 1)", ""},
	})
}

// P17.1: an application of an application.
func TestAppApp(t *testing.T) {
	allBecome(t, api.RuleAppApp, []told{
		{0, "((f 1) 2)", "(f 1 2)"},
		{0, "((f 1 2) 3 4 5)", "(f 1 2 3 4 5)"},
		{0, "(((f 1) 2) 3)", "((f 1) 2 3)"},
		{1, "(((f 1) 2) 3)", "((f 1 2) 3)"},
		{2, "(((f 1) 2) 3)", ""},
		{0, "(((\\ x -> x) 1) 2)", "((\\ x -> x) 1 2)"},
		{0, "((f (g 1)) (h 2))", "(f (g 1) (h 2))"},
		{0, "((x x) x)", "(x x x)"},
		{0, "(f (g 1))", ""},
		{0, "(f 1 2)", ""},
		{0, "((\\ x -> (f x)) 2)", ""},
		{0, "((let x = 1 in (f x)) 2)", ""},
		{0, "((case x of 1 -> (f x)) 2)", ""},
		{0, "((#add 1 2) 3)", ""},
		{0, "((Cons 1 2) 3)", ""},
		{0, "(#seq (f 1) 2)", ""},
		{0, "(Cons (f 1) 2)", ""},
		{0, "(case (f 1) of x -> x)", ""},
	})
}

// P17.1: as many arguments together as there may be, and one more.
func TestAppAppOfMany(t *testing.T) {
	for inner := 1; inner <= 32; inner++ {
		head := "((f " + numbered("a%", inner) + ") "
		if inner < 32 {
			outer := numbered("b%", 32-inner)
			becomes(t, read(head+outer+")"), 0, api.RuleAppApp, "(f "+numbered("a%", inner)+" "+outer+")")
		}
		becomes(t, read(head+numbered("b%", 33-inner)+")"), 0, api.RuleAppApp, "")
	}
	becomes(t, read("((f "+numbered("a%", 32)+") "+numbered("b%", 32)+")"), 0, api.RuleAppApp, "")
}
