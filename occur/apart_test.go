package occur_test

import "testing"

// P16.1: where two places and more stand in cases.
func TestAlternatives(t *testing.T) {
	for text, want := range map[string]string{
		// two places in different alternatives, of each kind
		"(case z of 1 -> x; 2 -> x)": "branch", "(case z of '1' -> x; '2' -> x)": "branch", "(case z of Nil -> x; Cons a b -> x)": "branch", "(case z of 1 -> x; a -> x)": "branch", "(case z of 1 -> x; 2 -> y; 3 -> x)": "branch", "(case z of 1 -> y; 2 -> x; _ -> x)": "branch", "(case z of 1 -> (f (g x)); _ -> (h (let a = x in a)))": "branch",
		// in the same alternative
		"(case z of 1 -> (x x); _ -> 2)": "many", "(case z of 1 -> 2; _ -> (x x))": "many", "(case z of 1 -> (f x (g x)))": "many", "(case z of 1 -> 2; _ -> (let a = x in x))": "many",
		// in the case's own expression and in an alternative
		"(case x of 1 -> x; _ -> 2)": "many", "(case x of 1 -> 2; _ -> x)": "many", "(case (f x) of a -> (f x))": "many", "(case x of 1 -> x; _ -> x)": "many", "(case (x x) of 1 -> 2)": "many",
		// in different alternatives of an inner case, and of an outer one
		"(case z of 1 -> (case z of 1 -> x; _ -> x); _ -> 2)": "branch", "(case z of 1 -> (case z of 1 -> x; _ -> 2); _ -> x)": "branch", "(case z of 1 -> x; _ -> (case z of 1 -> 2; _ -> x))": "branch", "(case z of 1 -> (case z of 1 -> x; _ -> 2); _ -> (case z of 1 -> 2; _ -> x))": "branch", "(case (case z of 1 -> x; _ -> x) of 1 -> 2)": "branch", "(case (case z of 1 -> x; _ -> 2) of 1 -> x)": "many", "(case (case z of 1 -> x; _ -> 2) of 1 -> 2; _ -> x)": "many", "(case z of 1 -> (case x of 1 -> 2); _ -> x)": "branch", "(case z of 1 -> (case x of 1 -> x); _ -> 2)": "many", "(case z of 1 -> (case z of 1 -> (case z of 1 -> x; _ -> x); _ -> x); _ -> x)": "branch",
		// of two cases, each in its first or last one: both may be evaluated
		"((case z of 1 -> x; _ -> 2) (case z of 1 -> x; _ -> 2))": "many", "((case z of 1 -> x; _ -> 2) (case z of 1 -> 2; _ -> x))": "many", "(let a = (case z of 1 -> x; _ -> 2) in (case z of 1 -> 2; _ -> x))": "many", "(let a = (case z of 1 -> x; _ -> 2); b = (case z of 1 -> 2; _ -> x) in 1)": "many",
		// three places
		"(case z of 1 -> x; 2 -> x; _ -> x)": "branch", "(case z of 1 -> (x x); _ -> x)": "many", "(case z of 1 -> x; _ -> (x x))": "many", "(case z of 1 -> x; 2 -> (x x); _ -> x)": "many", "(f (case z of 1 -> x; _ -> x) x)": "many", "(f x (case z of 1 -> x; _ -> x))": "many", "(case z of 1 -> (f x (case z of 1 -> x; _ -> x)); _ -> 2)": "many", "(case x of 1 -> (case z of 1 -> x; _ -> x); _ -> 2)": "many", "(case (case z of 1 -> x; _ -> x) of 1 -> x; _ -> 2)": "many", "(let a = (case z of 1 -> x; _ -> x) in x)": "many", "(let a = x in (case z of 1 -> x; _ -> x))": "many", "(case z of 1 -> (case z of 1 -> x; 2 -> x; _ -> 3); _ -> x)": "branch",
		// the first and the last are together, whatever stands between
		"(f (case z of 1 -> x; _ -> 2) (case z of 1 -> x; _ -> x))": "many", "(f (case z of 1 -> x; _ -> x) (case z of 1 -> x; _ -> 2))": "many", "(f (case z of 1 -> x; _ -> x) y (case z of 1 -> x; _ -> x))": "many",
		// a place within a lambda beside one within none, and in another alternative than it
		"(x (\\ y -> x))": "many", "((\\ y -> x) x)": "many", "(let a = (\\ y -> x) in x)": "many", "(let a = x in (\\ y -> x))": "many", "(case x of 1 -> (\\ y -> x))": "many", "(case (\\ y -> x) of 1 -> x)": "many", "(case z of 1 -> x; _ -> (\\ y -> x))": "many", "(case z of 1 -> (\\ y -> x); _ -> x)": "many", "(case z of 1 -> x; 2 -> x; _ -> (\\ y -> x))": "many", "(case z of 1 -> (\\ y -> x); 2 -> x; _ -> x)": "many", "(case z of 1 -> (\\ y -> x); _ -> (\\ y -> x))": "many", "((\\ y -> x) (\\ y -> x))": "many",
		// in a lambda different alternatives are no help, nor are lambdas that bind the name
		"(\\ y -> (case y of 1 -> x; _ -> x))": "many", "(case z of 1 -> x; _ -> (\\ y -> 2))": "once", "(case z of 1 -> x; _ -> (\\ x -> x))": "once", "(case z of 1 -> (\\ y -> x); _ -> (\\ x -> x))": "lam", "(case z of 1 -> x; 2 -> (\\ x -> x); _ -> x)": "branch", "(case (\\ y -> y) of 1 -> x; _ -> x)": "branch",
	} {
		ofIs(t, read(text), "x", want)
		if len(all(t, read(text))) == 0 {
			allIs(t, read("(\\ x -> "+text+")"), "x "+want)
			allIs(t, read("(let x = 1 in "+text+")"), "x "+want)
			allIs(t, read("(let x = "+text+" in 1)"), "x "+want)
			allIs(t, read("(case 1 of x -> "+text+")"), "x "+want)
			allIs(t, read("(case 1 of Cons x a -> "+text+"; Nil -> x)"), "x "+want+", a dead")
		}
	}
}

// P16.1: alternatives around the scope part no places in it: the two are in one alternative.
func TestAlternativesAroundAScope(t *testing.T) {
	for text, want := range map[string]string{
		"(case z of 1 -> (\\ x -> (x x)); _ -> (\\ x -> x))":                  "x many, x once",
		"(case z of 1 -> 2; x -> (let y = x in (x y)))":                       "x many, y once",
		"(case z of 1 -> (let x = 1 in (f x x)); _ -> (let x = 2 in x))":      "x many, x once",
		"(case z of Cons x y -> (case x of 1 -> y; _ -> y); _ -> 1)":          "x once, y branch",
		"(case z of Cons x y -> (case y of 1 -> x; _ -> (y x)); _ -> 1)":      "x branch, y many",
		"(\\ x -> (case z of 1 -> (\\ y -> x); _ -> (\\ y -> (y y))))":        "x lam, y dead, y many",
		"(let x = (case z of 1 -> y; _ -> y); y = 1 in (case y of 1 -> x))":   "x once, y many",
		"(\\ x y -> (case x of 1 -> (case z of 1 -> y; _ -> y); _ -> (f y)))": "x once, y branch",
	} {
		allIs(t, read(text), want)
	}
}
