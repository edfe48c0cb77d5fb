package model_test

import (
	"fmt"
	"strings"
	"testing"

	"thunkmill/api"
	"thunkmill/core"
	"thunkmill/prim"
)

// Evaluate: each primitive of chapter 8's table, by that table.
func TestSimplePrimitives(t *testing.T) {
	comesTo{
		"(#add 2 3)":                      "value 5 in 3",
		"(#add 9223372036854775807 1)":    "value -9223372036854775808 in 3",
		"(#sub 2 3)":                      "value -1 in 3",
		"(#sub -9223372036854775808 1)":   "value 9223372036854775807 in 3",
		"(#mul -4 3)":                     "value -12 in 3",
		"(#mul 4611686018427387904 2)":    "value -9223372036854775808 in 3",
		"(#quot -7 2)":                    "value -3 in 3",
		"(#quot -9223372036854775808 -1)": "value -9223372036854775808 in 3",
		"(#quot 7 0)":                     "error divide by zero in 3",
		"(#quot 0 0)":                     "error divide by zero in 3",
		"(#rem -7 2)":                     "value -1 in 3",
		"(#rem 7 -2)":                     "value 1 in 3",
		"(#rem -9223372036854775808 -1)":  "value 0 in 3",
		"(#rem 7 0)":                      "error divide by zero in 3",
		"(#eq 1 1)":                       "value True in 3",
		"(#eq 1 2)":                       "value False in 3",
		"(#ne 1 1)":                       "value False in 3",
		"(#ne 1 2)":                       "value True in 3",
		"(#lt 1 2)":                       "value True in 3",
		"(#lt 2 2)":                       "value False in 3",
		"(#le 2 2)":                       "value True in 3",
		"(#le 3 2)":                       "value False in 3",
		"(#gt 3 2)":                       "value True in 3",
		"(#gt 2 2)":                       "value False in 3",
		"(#ge 2 2)":                       "value True in 3",
		"(#ge -2 2)":                      "value False in 3",
		"(#ceq '97' '97')":                "value True in 3",
		"(#ceq '97' '98')":                "value False in 3",
		"(#clt '97' '98')":                "value True in 3",
		"(#clt '98' '97')":                "value False in 3",
		"(#ord '0')":                      "value 0 in 2",
		"(#ord '255')":                    "value 255 in 2",
		"(#chr 0)":                        "value '0' in 2",
		"(#chr 255)":                      "value '255' in 2",
		"(#chr 256)":                      "error chr out of range in 2",
		"(#chr -1)":                       "error chr out of range in 2",
		"(#chr (#ord '97'))":              "value '97' in 3",
		"(#add (#mul 2 3) (#sub 9 2))":    "value 13 in 7",
		"(case (#eq 1 1) of False -> 1; True -> 2)":      "value 2 in 5",
		"(case (#clt '2' '1') of False -> 1; True -> 2)": "value 1 in 5",
	}.check(t)
}

// Evaluate: whatever the table says of numbers and characters is what an expression of them comes to.
func TestPrimitivesByTable(t *testing.T) {
	numbers := []int64{-1 << 63, -1 << 62, -256, -7, -1, 0, 1, 2, 7, 65, 255, 256, 1 << 32, 1<<63 - 1}
	for _, name := range prim.Names() {
		if !prim.Simple(name) {
			continue
		}
		for _, a := range numbers {
			for _, b := range numbers {
				args := argumentsOf(name, a, b)
				e := api.Expr{Kind: api.ExPrim, Name: name}
				for _, arg := range args {
					e.Args = append(e.Args, literalOf(arg))
				}
				p, _ := prim.Apply(name, args)
				want := fmt.Sprint(lookOf(p), " in ", 1+len(args))
				if got := evaluated(t, mainIs("1"), e, 5); told(got) != want {
					t.Fatalf("%s: %s, want %s", core.Text(e), told(got), want)
				}
			}
		}
	}
}

// argumentsOf are arguments that a primitive takes.
func argumentsOf(name string, l ...int64) []api.Prim {
	var args []api.Prim
	for i, n := range l[:core.Arity(name)] {
		a := api.Prim{Kind: prim.Takes(name, i), Num: n}
		if a.Kind == api.PrimChar {
			a.Num &= 255
		}
		args = append(args, a)
	}
	return args
}

func literalOf(p api.Prim) api.Expr {
	if p.Kind == api.PrimChar {
		return api.Expr{Kind: api.ExChar, Num: p.Num}
	}
	return api.Expr{Kind: api.ExInt, Num: p.Num}
}

// lookOf is how evaluation to a simple value ends.
func lookOf(p api.Prim) string {
	switch p.Kind {
	case api.PrimInt:
		return fmt.Sprint("value ", p.Num)
	case api.PrimChar:
		return fmt.Sprintf("value '%d'", p.Num)
	case api.PrimBool:
		return []string{"value False", "value True"}[p.Num]
	}
	return "error " + p.Text
}

// Evaluate: the arguments of a primitive from the left; the first wrong one ends the run ahead of the next one.
func TestOrderOfArguments(t *testing.T) {
	comesTo{
		"(#add (Nil) (#quot 1 0))":                  "wrong prim in 2",
		"(#add '1' (1 2))":                          "wrong prim in 2",
		"(#add (\\ x -> x) (1 2))":                  "wrong prim in 2",
		"(#add (#getc) (1 2))":                      "wrong prim in 2",
		"(#add 1 (Nil))":                            "wrong prim in 3",
		"(#add 1 '1')":                              "wrong prim in 3",
		"(#add (#quot 1 0) (Nil))":                  "error divide by zero in 4",
		"(#add (1 2) (Nil))":                        "wrong apply in 3",
		"(#quot (Nil) 0)":                           "wrong prim in 2",
		"(#quot '1' 0)":                             "wrong prim in 2",
		"(#quot 1 (#rem 1 0))":                      "error divide by zero in 5",
		"(#eq (case 1 of 2 -> 3) (Nil))":            "error no match in 3",
		"(#ceq 97 (1 2))":                           "wrong prim in 2",
		"(#ceq '97' 97)":                            "wrong prim in 3",
		"(#clt (Nil) (1 2))":                        "wrong prim in 2",
		"(#ord 97)":                                 "wrong prim in 2",
		"(#ord (Nil))":                              "wrong prim in 2",
		"(#chr '97')":                               "wrong prim in 2",
		"(#chr (#quot 1 0))":                        "error divide by zero in 4",
		"(let x = (#add 1 2) in (#sub x x))":        "value 0 in 7",
		"(let x = (#sub y 1); y = 5 in (#sub x y))": "value -1 in 8",
	}.check(t)
	for _, name := range prim.Names() {
		for i := range core.Arity(name) {
			if !prim.Simple(name) {
				continue
			}
			other := map[int]string{api.PrimInt: "'1'", api.PrimChar: "1"}[prim.Takes(name, i)]
			for _, wrong := range []string{other, "(Nil)", "(Pair 1 2)", "(\\ x -> x)", "(#eof)"} {
				args := []string{"1", "1"}
				if prim.Takes(name, i) == api.PrimChar {
					args = []string{"'1'", "'1'"}
				}
				args[i] = wrong
				if i == 0 {
					args[1] = "(#quot 1 0)"
				}
				e := read("(#" + name + " " + strings.Join(args[:core.Arity(name)], " ") + ")")
				if got, want := told(evaluated(t, mainIs("1"), e, 9)), fmt.Sprint("wrong prim in ", i+2); got != want {
					t.Errorf("%s: %s, want %s", core.Text(e), got, want)
				}
			}
		}
	}
}

// Evaluate: seq a b is a, then b.
func TestSeq(t *testing.T) {
	comesTo{
		"(#seq 1 2)":                                  "value 2 in 3",
		"(#seq (Nil) '1')":                            "value '1' in 3",
		"(#seq (\\ x -> (1 2)) 2)":                    "value 2 in 3",
		"(#seq (Pair (1 2) (#quot 1 0)) 2)":           "value 2 in 3",
		"(#seq (#ret (1 2)) 2)":                       "value 2 in 3",
		"(#seq (1 2) (#quot 1 0))":                    "wrong apply in 3",
		"(#seq (#quot 1 0) (1 2))":                    "error divide by zero in 4",
		"(#seq 1 (1 2))":                              "wrong apply in 4",
		"(let x = (#add 1 2) in (#seq x x))":          "value 3 in 7",
		"(let x = (#add 1 2) in (#seq x (#add x x)))": "value 6 in 9",
		"(#seq (#seq 1 2) (#seq 3 4))":                "value 4 in 7",
	}.check(t)
}

// Evaluate: show is a list of a number's characters, wholly evaluated.
func TestShow(t *testing.T) {
	for n, want := range map[string]string{"0": "0", "5": "5", "-5": "-5", "10": "10", "1234567890": "1234567890", "9223372036854775807": "9223372036854775807", "-9223372036854775808": "-9223372036854775808"} {
		shown := "(#show " + n + ")"
		// The whole text, told as an error: the list's cells have their values, so that reading it takes no step.
		comesTo{
			"(#error " + shown + ")":                "error " + want + " in 3",
			shown:                                   "value Cons in 2",
			"(case " + shown + " of Cons c r -> c)": fmt.Sprintf("value '%d' in 4", want[0]),
		}.check(t)
		if got := ran(t, prog(sayLines(shown)...), "", false, 9999); string(got.Out) != want || got.Kind != api.EndExit {
			t.Errorf("%s is written %s", shown, told(got))
		}
	}
	comesTo{
		"(#show '1')":         "wrong prim in 2",
		"(#show (Nil))":       "wrong prim in 2",
		"(#show (\\ x -> x))": "wrong prim in 2",
		"(#show (#ret 1))":    "wrong prim in 2",
		"(#show (#quot 1 0))": "error divide by zero in 4",
		"(#show (#add 40 2))": "value Cons in 4",
		"(case (#show 7) of Cons c r -> (case r of Nil -> c))":                              "value '55' in 6",
		"(case (#show 7) of Cons c r -> (case r of Nil -> (#seq r (#seq c c))))":            "value '55' in 10",
		"(case (#show 12) of Cons c r -> (case r of Cons d s -> (#sub (#ord d) (#ord c))))": "value 1 in 10",
	}.check(t)
}

// sayLines are a program that writes a list of characters.
func sayLines(text string) []string {
	return []string{"main = (say " + text + ")", "say = (\\ l -> (case l of Nil -> (#ret (Unit)); Cons c r -> (#bind (#putc c) (\\ u -> (say r)))))"}
}

// Evaluate: error reads a text, character by character, and ends with it.
func TestError(t *testing.T) {
	comesTo{
		"(#error (Nil))":                       "error in 2",
		"(#error " + chars("no") + ")":         "error no in 6",
		"(#error " + chars("\x00\xff\n") + ")": "error \x00\xff\n in 8",
		"(#error (Cons (#chr 97) (#show 12)))": "error a12 in 6",
		"(#error (let l = (Cons '97' l) in (Cons '98' (case l of Cons c r -> (Cons c (Nil))))))": "error ba in 10",
		// What is no text.
		"(#error 1)":                          "wrong prim in 2",
		"(#error '97')":                       "wrong prim in 2",
		"(#error (Unit))":                     "wrong prim in 2",
		"(#error (Pair '97' (Nil)))":          "wrong prim in 2",
		"(#error (\\ x -> x))":                "wrong prim in 2",
		"(#error (#getc))":                    "wrong prim in 2",
		"(#error (Cons 97 (#quot 1 0)))":      "wrong prim in 3",
		"(#error (Cons (Nil) (Nil)))":         "wrong prim in 3",
		"(#error (Cons (#getc) (Nil)))":       "wrong prim in 3",
		"(#error (Cons '97' 5))":              "wrong prim in 4",
		"(#error (Cons '97' '97'))":           "wrong prim in 4",
		"(#error (Cons '97' (Red)))":          "wrong prim in 4",
		"(#error (Cons '97' (Cons 1 (1 2))))": "wrong prim in 5",
		// Its own errors come first where they are met first.
		"(#error (1 2))":                                  "wrong apply in 3",
		"(#error (#error " + chars("in") + "))":           "error in in 7",
		"(#error (Cons (#quot 1 0) (1 2)))":               "error divide by zero in 5",
		"(#error (Cons '97' (1 2)))":                      "wrong apply in 5",
		"(#error (Cons (#error (Nil)) (1 2)))":            "error in 4",
		"(#error (Cons '97' (#error (Cons '98' (Nil)))))": "error b in 7",
		// Nobody asks for it.
		"((\\ x -> 1) (#error (Nil)))":             "value 1 in 3",
		"(Pair (#error (Nil)) 1)":                  "value Pair in 1",
		"(#ret (#error (Nil)))":                    "value action in 1",
		"(#seq (#error " + chars("a") + ") (1 2))": "error a in 5",
		"(#add 1 (#error " + chars("a") + "))":     "error a in 6",
		"(case (#error (Nil)) of _ -> 1)":          "error in 3",
	}.check(t)
}

// from is a text of so many characters a, ahead of what stands behind it.
func from(n int, behind string) api.Expr {
	e := read(behind)
	for range n {
		e = api.Expr{Kind: api.ExCon, Name: "Cons", Args: []api.Expr{{Kind: api.ExChar, Num: 97}, e}}
	}
	return e
}

// Evaluate: an error's text has MaxMessage characters at most; the rest is not evaluated.
func TestLongMessages(t *testing.T) {
	most := strings.Repeat("a", api.MaxMessage)
	p := prog("main = 1", "nil = (Nil)", "loop = loop", "as = (Cons '97' as)")
	for _, x := range []struct {
		n      int
		behind string
		want   string
	}{
		// Each character takes a step, and so does each Cons, and the error's own expression.
		{api.MaxMessage - 1, "(Nil)", "error " + most[1:] + " in 2048"},
		{api.MaxMessage - 1, "(#quot 1 0)", "error divide by zero in 2050"},
		{api.MaxMessage - 1, "(Cons 97 loop)", "wrong prim in 2049"},
		{api.MaxMessage, "(Nil)", "error " + most + " in 2049"},
		{api.MaxMessage, "(Cons '97' (Nil))", "error " + most + " in 2049"},
		{api.MaxMessage, "(Cons 1 2)", "error " + most + " in 2049"},
		{api.MaxMessage, "1", "error " + most + " in 2049"},
		{api.MaxMessage, "loop", "error " + most + " in 2049"},
		{api.MaxMessage, "(#quot 1 0)", "error " + most + " in 2049"},
		{api.MaxMessage, "(#error (Nil))", "error " + most + " in 2049"},
		{api.MaxMessage + 1, "(Nil)", "error " + most + " in 2049"},
		{api.MaxMessage + 900, "loop", "error " + most + " in 2049"},
		// A text without an end: its Cons and its character, once, and the variable, where it is no part.
		{0, "as", "error " + most + " in 4"},
		{5, "as", "error " + most + " in 13"},
	} {
		e := api.Expr{Kind: api.ExPrim, Name: "error", Args: []api.Expr{from(x.n, x.behind)}}
		got := evaluated(t, p, e, api.MaxFuel)
		if told(got) != x.want {
			t.Errorf("%d characters ahead of %s: %.40s .., %d characters, in %d", x.n, x.behind, told(got), len(got.Text), got.Steps)
		}
		checkFuel(t, x.behind, got, func(fuel int) api.Outcome { return evaluated(t, p, e, fuel) })
	}
}
