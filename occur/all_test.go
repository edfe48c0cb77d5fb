package occur_test

import (
	"testing"

	"thunkmill/api"
)

// P16.1: each binder with its occurrence in its scope, in order.
func TestAll(t *testing.T) {
	for text, want := range map[string]string{
		// none
		"x": "", "1": "", "'1'": "", "(Nil)": "", "(f x 1)": "", "(#add x 1)": "", "(case x of 1 -> y; _ -> z)": "", "(case x of Nil -> y)": "",
		// lambdas
		"(\\ x -> x)": "x once", "(\\ x -> 1)": "x dead", "(\\ x -> (x x))": "x many", "(\\ x -> (\\ y -> x))": "x lam, y dead", "(\\ x -> (case z of 1 -> x; _ -> x))": "x branch",
		"(\\ x y -> (x y))": "x once, y once", "(\\ y x -> (x y x))": "y once, x many", "(\\ x -> (\\ y -> (y x y)))": "x lam, y many", "((\\ a -> a) (\\ b -> 1) (\\ c -> (c c)))": "a once, b dead, c many", "(\\ a b c d -> (d (\\ e -> (a d e)) (case a of 1 -> c; _ -> c)))": "a many, b dead, c branch, d many, e once",
		// lets
		"(let x = 1 in x)": "x once", "(let x = 1 in 2)": "x dead", "(let x = 1 in (x x))": "x many", "(let x = 1 in (\\ y -> x))": "x lam, y dead", "(let x = 1 in (case z of 1 -> x; _ -> x))": "x branch",
		"(let a = 1; b = a; c = b in c)": "a once, b once, c once", "(let b = 1; a = (b b) in 2)": "b many, a dead", "(let a = (\\ y -> b); b = (\\ x -> x) in a)": "a once, b lam, y dead, x once", "(let a = (let b = a in b); c = (let d = c in c) in (let e = 1 in (e e)))": "a once, c many, b once, d dead, e many",
		// cases
		"(case 1 of x -> x)": "x once", "(case 1 of x -> 2)": "x dead", "(case 1 of x -> (x x))": "x many", "(case 1 of x -> (\\ y -> x))": "x lam, y dead", "(case 1 of x -> (case z of 1 -> x; _ -> x))": "x branch",
		"(case 1 of Cons x y -> (y y); Nil -> 1)": "x dead, y many", "(case 1 of Nil -> x; Cons y x -> (\\ z -> x))": "y dead, x lam, z dead", "(case 1 of Cons a b -> a; c -> b)": "a once, b dead, c dead", "(case (\\ a -> a) of Cons b c -> (\\ d -> b); e -> (\\ f -> (e f e)))": "a once, b lam, c dead, d dead, e many, f once", "(case 1 of 1 -> (\\ a -> a); '2' -> (\\ b -> b); _ -> (\\ c -> c))": "a once, b once, c once",
		// in other expressions
		"(Cons (\\ a -> a) (\\ b -> (b b)))": "a once, b many", "(#seq (\\ a -> a) (#ord (\\ b -> 1)))": "a once, b dead", "(f (let a = 1 in a) (case 2 of b -> 3))": "a once, b dead",
	} {
		allIs(t, read(text), want)
	}
}

// P16.1: an expression with lists of all kinds: its Params, its Binds' names, and what is bound in Binds, Args and Alts, each alternative's Vars ahead of its own.
func TestOrderOfBinders(t *testing.T) {
	e := api.Expr{
		Kind:   api.ExCase,
		Params: names("p1", "p2"),
		Binds:  []api.Bind{{Name: "b1", E: read("(\\ i1 -> p1)")}, {Name: "b2", E: read("(let i2 = i2 in p2)")}},
		Args:   list(read("(\\ i3 i4 -> (b1 i3))"), read("(case b2 of i5 -> i5)")),
		Alts: []api.Alt{
			{Kind: api.AltCon, Name: "Cons", Vars: names("v1", "v2"), E: read("(\\ i6 -> (p2 v1))")},
			{Kind: api.AltElse, Vars: names("v3"), E: read("(let i7 = v3; i8 = v3 in v3)")},
		},
	}
	allIs(t, e, "p1 lam, p2 many, b1 lam, b2 once, i1 dead, i2 once, i3 once, i4 dead, i5 once, v1 lam, v2 dead, i6 dead, v3 many, i7 dead, i8 dead")
}

// P16.1: the lambda whose own name it is is not one that it is within, nor is one around it; one further in is.
func TestLambdasOfAScope(t *testing.T) {
	for text, want := range map[string]string{
		"(\\ a -> (\\ x -> x))":                          "a dead, x once",
		"(\\ a -> (let x = a in x))":                     "a once, x once",
		"(\\ a -> (case a of x -> x))":                   "a once, x once",
		"(\\ a -> (\\ b -> (\\ x -> (a b x))))":          "a lam, b lam, x once",
		"(\\ a -> (let x = (\\ b -> x) in x))":           "a dead, x many, b dead",
		"(\\ a -> (let x = (\\ b -> x) in a))":           "a once, x lam, b dead",
		"(f (\\ a -> a) (\\ b -> (\\ c -> (c b))) a)":    "a once, b lam, c once",
		"(let f = (\\ a -> (f a)) in f)":                 "f many, a once",
		"(\\ x -> (case x of 1 -> (\\ y -> 1); _ -> 2))": "x once, y dead",
	} {
		allIs(t, read(text), want)
	}
}
