package model_test

import (
	"testing"

	"thunkmill/api"
)

// comesTo are expressions and what they come to, with the steps reckoned by the chapter: one for each evaluation.
type comesTo map[string]string

// check evaluates each expression in the scope of some bindings: with all fuel, and with less and just enough of it.
func (c comesTo) check(t *testing.T, lines ...string) {
	t.Helper()
	p := prog(append(lines, "main = (#ret (Unit))")...)
	for text, want := range c {
		e := read(text)
		got := evaluated(t, p, e, api.MaxFuel)
		if told(got) != want {
			t.Errorf("%s: %s, want %s", text, told(got), want)
		}
		checkFuel(t, text, got, func(fuel int) api.Outcome { return evaluated(t, p, e, fuel) })
	}
}

// P15.2: a number, a character, a lambda, a constructor is itself, and how each looks.
func TestValues(t *testing.T) {
	comesTo{
		"0":                           "value 0 in 1",
		"7":                           "value 7 in 1",
		"-7":                          "value -7 in 1",
		"9223372036854775807":         "value 9223372036854775807 in 1",
		"-9223372036854775808":        "value -9223372036854775808 in 1",
		"'0'":                         "value '0' in 1",
		"'97'":                        "value '97' in 1",
		"'255'":                       "value '255' in 1",
		"(\\ x -> x)":                 "value fun in 1",
		"(\\ x y -> (#error x))":      "value fun in 1",
		"(Nil)":                       "value Nil in 1",
		"(True)":                      "value True in 1",
		"(Blue 1)":                    "value Blue in 1",
		"(Cons (#quot 1 0) (1 2))":    "value Cons in 1",
		"(#ret (1 2))":                "value action in 1",
		"(#bind 1 2)":                 "value action in 1",
		"(#getc)":                     "value action in 1",
		"(#putc 1)":                   "value action in 1",
		"(#eof)":                      "value action in 1",
		"(#exit (Nil))":               "value action in 1",
		"((\\ x y -> x) 1)":           "value fun in 2",
		"((\\ x y z -> x) (1 2) 3)":   "value fun in 2",
		"(((\\ x y z -> x) (1 2)) 3)": "value fun in 3",
	}.check(t)
}

// Evaluate: a variable's cell is evaluated once at most. A variable, where it is evaluated, takes a step of its own.
func TestVariables(t *testing.T) {
	comesTo{
		"a":                              "value 3 in 4",
		"b":                              "value 3 in 5",
		"(#add a a)":                     "value 6 in 6",
		"(#add b a)":                     "value 6 in 7",
		"(#add a b)":                     "value 6 in 7",
		"(let x = a in (#add x x))":      "value 6 in 8",
		"(let a = 5 in a)":               "value 5 in 3",
		"((\\ a -> (#add a a)) 5)":       "value 10 in 6",
		"((\\ a -> ((\\ a -> a) 6)) 5)":  "value 6 in 6",
		"(case 7 of a -> a)":             "value 7 in 3",
		"(case (Blue 7) of Blue a -> a)": "value 7 in 4",
		"f":                              "value fun in 2",
		"main":                           "value action in 2",
		"(let x = (#add a 1) in (#add (#add x x) x))": "value 12 in 12",
	}.check(t, "a = (#add 1 2)", "b = a", "f = (\\ x -> x)")
}

// Evaluate: a part or an argument that is a variable is that variable's own cell; any other, and a let's binding, is a new one. The steps tell them apart.
func TestOwnCells(t *testing.T) {
	comesTo{
		// The parts are x's own cell: no step but the variables' own ones.
		"(let x = (#add 1 2) in (case (Pair x x) of Pair a b -> (#add a b)))": "value 6 in 9",
		// A new cell for each part.
		"(case (Pair (#add 1 2) (#add 1 2)) of Pair a b -> (#add a b))": "value 6 in 11",
		"(let x = (#add 1 2) in ((\\ a b -> (#add a b)) x x))":          "value 6 in 9",
		"((\\ a b -> (#add a b)) (#add 1 2) (#add 1 2))":                "value 6 in 11",
		// A binding's cell is always a new one: y takes the step of the variable x.
		"(let x = (#add 1 2); y = x in (#add y y))":         "value 6 in 8",
		"(let x = (#add 1 2) in (let y = x in (#add x y)))": "value 6 in 9",
		// What is evaluated by one name is so by each other one of the same cell.
		"(let x = (#add 1 2) in ((\\ y -> (#add y x)) x))":                                            "value 6 in 9",
		"(let x = (#add 1 2) in ((\\ y -> ((\\ z -> (#add z (#add y x))) y)) x))":                     "value 9 in 13",
		"(let p = (Pair (#add 1 2) p) in (case p of Pair a q -> (case q of Pair b r -> (#add a b))))": "value 6 in 12",
		// An AltElse's name has the value.
		"(case (#add 1 2) of x -> (#add x x))": "value 6 in 7",
	}.check(t)
}

// Evaluate: an application with fewer, as many and more arguments than parameters, also of a function that has some already.
func TestApplications(t *testing.T) {
	comesTo{
		"((\\ x -> x) 1)":                               "value 1 in 4",
		"((\\ x y -> y) (1 2) 3)":                       "value 3 in 4",
		"((\\ x -> (\\ y -> x)) 4 5)":                   "value 4 in 5",
		"((\\ x -> (\\ y z -> x)) 4 5)":                 "value fun in 3",
		"((\\ x -> (\\ y z -> z)) 4 5 6)":               "value 6 in 5",
		"((\\ x -> x) (\\ x -> x) 6)":                   "value 6 in 6",
		"((\\ x y -> (#sub x y)) 9 2)":                  "value 7 in 7",
		"(((\\ x y -> (#sub x y)) 9) 2)":                "value 7 in 8",
		"(sub3 20 5 1)":                                 "value 14 in 11",
		"((sub3 20) 5 1)":                               "value 14 in 12",
		"((sub3 20 5) 1)":                               "value 14 in 12",
		"(((sub3 20) 5) 1)":                             "value 14 in 13",
		"(let f = (sub3 20) in (#sub (f 5 1) (f 6 2)))": "value 2 in 24",
		"(let f = (sub3 20); g = (f 5) in (#add (g 1) (#add (g 2) (f 1 1))))": "value 45 in 35",
		"((pick 1) 8 9 7)": "wrong apply in 6",
		"(pick (\\ x -> (\\ y -> (#add x y))) 9 3 4)": "value 7 in 11",
		"((pick (\\ x y -> (#add x y)) 9) 3 4)":       "value 7 in 11",
		"((pick pick) 1 2 3)":                         "value 2 in 7",
		// What is no function.
		"(1 2)":                     "wrong apply in 2",
		"('97' 2)":                  "wrong apply in 2",
		"((Nil) 2)":                 "wrong apply in 2",
		"((#getc) 2)":               "wrong apply in 2",
		"((\\ x -> x) 1 2)":         "wrong apply in 4",
		"((\\ x y -> x) (Red) 1 2)": "wrong apply in 4",
		"(((\\ x y -> x) 1) 2 3)":   "wrong apply in 5",
		"((#add 1 2) (#quot 1 0))":  "wrong apply in 4",
		"((#quot 1 0) (1 2))":       "error divide by zero in 4",
	}.check(t, "sub3 = (\\ x y z -> (#sub x (#add y z)))", "pick = (\\ x y -> x)")
}

// Evaluate: a let's bindings see one another, and what no one asks for is not evaluated.
func TestLets(t *testing.T) {
	comesTo{
		"(let x = 1 in 2)":                                 "value 2 in 2",
		"(let x = (#quot 1 0); y = 3 in y)":                "value 3 in 3",
		"(let x = (#add y 1); y = (#add z 1); z = 1 in x)": "value 3 in 9",
		"(let x = (Cons 1 y); y = (Cons 2 x) in (case x of Cons a r -> (case r of Cons b s -> (case s of Cons c u -> (#add b c)))))":                          "value 3 in 14",
		"(let even = (\\ n -> (case n of 0 -> (True); _ -> (odd (#sub n 1)))); odd = (\\ n -> (case n of 0 -> (False); _ -> (even (#sub n 1)))) in (even 3))": "value False in 30",
		"(let x = 1 in (let x = (#add x 1) in x))":        "loop in 5",
		"(let x = 1 in (let y = (#add x 1); x = 7 in y))": "value 8 in 7",
		"(let f = (\\ x -> y); y = 4 in (f 1))":           "value 4 in 6",
		"(let x = 1 in (\\ y -> x))":                      "value fun in 2",
	}.check(t)
}

// Evaluate: a case of each kind of alternatives, AltElse with a name and without.
func TestCases(t *testing.T) {
	comesTo{
		"(case 2 of 1 -> 10; 2 -> 20; 3 -> 30)":                             "value 20 in 3",
		"(case -2 of 2 -> 10; -2 -> 20)":                                    "value 20 in 3",
		"(case 9223372036854775807 of -1 -> 10; 9223372036854775807 -> 20)": "value 20 in 3",
		"(case '97' of '98' -> 10; '97' -> 20)":                             "value 20 in 3",
		"(case (Green) of Red -> 1; Green -> 2; Blue x -> x)":               "value 2 in 3",
		"(case (Blue 5) of Red -> 1; Green -> 2; Blue x -> x)":              "value 5 in 4",
		"(case (Pair 9 2) of Pair x y -> (#sub x y))":                       "value 7 in 7",
		"(case (Pair (1 2) 2) of Pair x y -> y)":                            "value 2 in 4",
		"(case (#lt 1 2) of True -> 1; False -> (1 2))":                     "value 1 in 5",
		// An AltElse fits whatever the value is.
		"(case 3 of 1 -> 10; _ -> 20)":                        "value 20 in 3",
		"(case 1 of 1 -> 10; _ -> 20)":                        "value 10 in 3",
		"(case 3 of 1 -> 10; x -> x)":                         "value 3 in 3",
		"(case '1' of 1 -> 10; x -> x)":                       "value '1' in 3",
		"(case 97 of '97' -> 10; x -> x)":                     "value 97 in 3",
		"(case (\\ x -> x) of 1 -> 10; x -> x)":               "value fun in 3",
		"(case (#eof) of Nil -> 10; x -> x)":                  "value action in 3",
		"(case 1 of Red -> 10; x -> x)":                       "value 1 in 3",
		"(case (Nil) of Red -> 10; x -> x)":                   "value Nil in 3",
		"(case (Pair 4 5) of x -> (case x of Pair a b -> b))": "value 5 in 6",
		"(case 1 of _ -> 2)":                                  "value 2 in 3",
		"(case (#quot 1 0) of _ -> 2)":                        "error divide by zero in 4",
		"(case (1 2) of x -> 2)":                              "wrong apply in 3",
	}.check(t)
}

// Evaluate: no alternative fits: it hangs on the kinds of the value and of the alternatives.
func TestNoAlternativeFits(t *testing.T) {
	comesTo{
		"(case 3 of 1 -> 10)":                          "error no match in 2",
		"(case '3' of '1' -> 10; '2' -> 10)":           "error no match in 2",
		"(case (Red) of Green -> 10; Blue x -> 10)":    "error no match in 2",
		"(case (Nil) of Cons x y -> 10)":               "error no match in 2",
		"(case (Nil) of Red -> 10; Green -> 10)":       "error no match in 2",
		"(case (Unit) of Pair x y -> 10)":              "error no match in 2",
		"(case 1 of '1' -> 10)":                        "wrong case in 2",
		"(case 1 of Nil -> 10)":                        "wrong case in 2",
		"(case '1' of 1 -> 10)":                        "wrong case in 2",
		"(case '1' of Nil -> 10)":                      "wrong case in 2",
		"(case (Nil) of 1 -> 10)":                      "wrong case in 2",
		"(case (Nil) of '1' -> 10)":                    "wrong case in 2",
		"(case (\\ x -> x) of 1 -> 10)":                "wrong case in 2",
		"(case (\\ x -> x) of '1' -> 10)":              "wrong case in 2",
		"(case (\\ x -> x) of Nil -> 10)":              "wrong case in 2",
		"(case ((\\ x y -> x) 1) of Nil -> 10)":        "wrong case in 3",
		"(case (#getc) of 0 -> 10)":                    "wrong case in 2",
		"(case (#getc) of '0' -> 10)":                  "wrong case in 2",
		"(case (#ret 1) of Nil -> 10; Cons x y -> 10)": "wrong case in 2",
	}.check(t)
}

// Evaluate: a cell that needs itself, at once or by others.
func TestLoops(t *testing.T) {
	comesTo{
		"(let x = x in x)":                                         "loop in 3",
		"(let x = y; y = x in x)":                                  "loop in 4",
		"(let x = (#add 1 y); y = (#add x 1) in x)":                "loop in 7",
		"(let x = (#seq x 1) in x)":                                "loop in 4",
		"(let x = (case x of y -> 1) in (#add 1 x))":               "loop in 6",
		"(let x = (x 1) in x)":                                     "loop in 4",
		"(let f = (\\ y -> (#add y x)); x = (f 1) in x)":           "loop in 9",
		"(let x = (\\ y -> x) in x)":                               "value fun in 3",
		"(let x = (Cons 1 x) in x)":                                "value Cons in 3",
		"(let x = (Cons 1 y); y = (case x of Cons a b -> b) in y)": "loop in 6",
		"(let x = (#error (Cons x (Nil))) in x)":                   "loop in 4",
		"loop":                                                     "loop in 2",
		"one":                                                      "loop in 5",
		"(let x = (#error x) in x)":                                "loop in 4",
		"(let x = (#show x) in x)":                                 "loop in 4",
	}.check(t, "loop = loop", "one = (#add 1 two)", "two = one")
}
