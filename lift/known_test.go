package lift_test

import (
	"fmt"
	"strings"
	"testing"

	"thunkmill/api"
	"thunkmill/core"
)

// P19.1, P19.2: lets that are not known, in a function of a, b and c.
func TestNotKnown(t *testing.T) {
	for _, text := range []string{
		// A right side that is no lambda.
		"(let f = 1 in f)", "(let f = a in (f 1))", "(let f = (g 1) in (f 1))", "(let f = (Nil) in 1)", "(let f = (let x = 1 in (\\ y -> x)) in (f 1))", "(let f = (case a of 1 -> (\\ x -> x)) in (f 1))", "(let f = (#add 1 2) in 3)",
		"(let f = (\\ x -> x); y = 1 in (f y))", "(let y = 1; f = (\\ x -> y) in (f 2))", "(let f = (\\ x -> x); y = g in (f 1))", "(let f = (\\ x -> (#add x y)); y = (f 1) in 2)",
		// A name that is an argument, of whatever takes one.
		"(let f = (\\ x -> x) in (g f))", "(let f = (\\ x -> x) in (g 1 f))", "(let f = (\\ x -> x) in (f f))", "(let f = (\\ x -> x) in (f 1 f))", "(let f = (\\ x -> x) in (Blue f))", "(let f = (\\ x -> x) in (Cons 1 f))", "(let f = (\\ x -> x) in ((f 1) f))",
		"(let f = (\\ x -> x) in (#seq 1 f))", "(let f = (\\ x -> x) in (#seq f 1))", "(let f = (\\ x -> x) in (#show f))", "(let f = (\\ x -> x) in (#add (f 1) f))", "(let f = (\\ x -> x) in (#bind 1 f))", "(let f = (\\ x -> x) in (#ret f))",
		// One that is returned, or stands alone.
		"(let f = (\\ x -> x) in f)", "(let f = (\\ x -> f) in (f 1))", "(let f = (\\ x -> x) in (\\ y -> f))", "(let f = (\\ x -> x) in (let y = 1 in f))", "(let f = (\\ x -> x) in (let y = f in (f 1)))", "(let f = (\\ x -> x) in (case a of 1 -> (f 1); _ -> f))", "(let f = (\\ x -> x) in (case f of _ -> (f 1)))",
		"(let f = (\\ x -> x) in ((let y = 1 in f) 1))", "(let f = (\\ x -> x) in ((case a of 1 -> f) 1))", "(let f = (\\ x -> x) in (case (case f of y -> (y 1)) of 1 -> 2))",
		// Too few arguments, at one place among others.
		"(let f = (\\ x y -> x) in (f 1))", "(let f = (\\ x y -> x) in ((f 1) 2))", "(let f = (\\ x y z -> x) in (#add (f 1 2 3) (f 1 2)))", "(let f = (\\ x y -> x) in (#add (f 1) (f 1 2)))", "(let f = (\\ x y -> (f x)) in (f 1 2))", "(let f = (\\ x y -> (f 1 2)) in (case (f 1) of u -> 1))",
		// One of several, wherever it stands.
		"(let f = (\\ x -> (e x)); e = (\\ y -> y) in (g e))", "(let f = (\\ x -> (g e)); e = (\\ y -> y) in (f 1))", "(let f = (\\ x -> x); e = (\\ y -> (g f)) in (f 1))", "(let f = (\\ x -> x); e = (\\ y z -> (f y)) in (#add (f 1) (e 2)))", "(let f = (\\ x -> (e x)); e = (\\ y z -> (f y)) in (f 1))", "(let f = (\\ x -> (e x)); e = (\\ y -> f) in (f 1))",
	} {
		stays(t, "(\\ a b c -> "+text+")")
		counts(t, "(\\ a b c -> "+text+")", 0)
		knows(t, text, false)
	}
}

// P19.1, P19.2: lets that are known, what they become, and what their functions do.
func TestKnown(t *testing.T) {
	for _, x := range [][]string{
		// Of one lambda, without free variables.
		{"(let f = (\\ x -> x) in 1)", "1", "(\\ x -> x)"},
		{"(let f = (\\ x -> x) in (f 1))", "(~1 1)", "(\\ x -> x)"},
		{"(let f = (\\ x y -> (g x y)) in (f a 2))", "(~1 a 2)", "(\\ x y -> (g x y))"},
		{"(let f = (\\ x -> (f x)) in 1)", "1", "(\\ x -> (~1 x))"},
		{"(let f = (\\ x -> (f x)) in (f 1))", "(~1 1)", "(\\ x -> (~1 x))"},
		{"(let f = (\\ x -> (main x)) in (main 1))", "(main 1)", "(\\ x -> (main x))"},
		// To more arguments than there are Params.
		{"(let f = (\\ x -> h) in (f 1 2))", "(~1 1 2)", "(\\ x -> h)"},
		{"(let f = (\\ x -> (f x x a)) in (#add (f 1) (f 1 2 3 4)))", "(#add (~1 a 1) (~1 a 1 2 3 4))", "(\\ u x -> (~1 u x x u))"},
		// With free variables, which come ahead, rising.
		{"(let f = (\\ x -> (#add x a)) in (f 1))", "(~1 a 1)", "(\\ u x -> (#add x u))"},
		{"(let f = (\\ x -> (#add (#mul c x) (#sub b (#mul a c)))) in (f 1))", "(~1 a b c 1)", "(\\ u v w x -> (#add (#mul w x) (#sub v (#mul u w))))"},
		{"(let f = (\\ x -> (c b)) in (f 1))", "(~1 b c 1)", "(\\ v w x -> (w v))"},
		{"(let f = (\\ x -> (c x)) in (f c))", "(~1 c c)", "(\\ w x -> (w x))"},
		{"(let f = (\\ x -> (a b)) in (case (f a) of Cons y z -> (f z b); _ -> (f c)))", "(case (~1 a b a) of Cons y z -> (~1 a b z b); _ -> (~1 a b c))", "(\\ u v x -> (u v))"},
		{"(let f = (\\ x -> (case x of Cons y z -> (f y b); y2 -> (let w = (f y2) in (Cons w a)))) in (f c))", "(~1 a b c)", "(\\ u v x -> (case x of Cons y z -> (~1 u v y v); y2 -> (let w = (~1 u v y2) in (Cons w u))))"},
		{"(let f = (\\ x -> (\\ y -> (f y x a))) in (\\ z -> (f z)))", "(\\ z -> (~1 a z))", "(\\ u x -> (\\ y -> (~1 u y x u)))"},
		// Of several.
		{"(let f = (\\ x -> x); e = (\\ y -> y) in 1)", "1", "(\\ x -> x)", "(\\ y -> y)"},
		{"(let f = (\\ x -> (e x)); e = (\\ y -> (f y)) in (#add (e 1) (f 2)))", "(#add (~2 1) (~1 2))", "(\\ x -> (~2 x))", "(\\ y -> (~1 y))"},
		{"(let f = (\\ x -> (#add a (e x))); e = (\\ y -> (#sub b (f y))) in (#add (e 1) (f 2)))", "(#add (~2 a b 1) (~1 a b 2))", "(\\ u v x -> (#add u (~2 u v x)))", "(\\ u v y -> (#sub v (~1 u v y)))"},
		{"(let z = (\\ x -> b); f = (\\ y -> y); e = (\\ w -> (z a)) in (e 1))", "(~3 a b 1)", "(\\ u v x -> v)", "(\\ u v y -> y)", "(\\ u v w -> (~1 u v u))"},
		{"(let f = (\\ x y z -> (f x y z)); e = (\\ w -> (e w)) in (f 1 2 3))", "(~1 1 2 3)", "(\\ x y z -> (~1 x y z))", "(\\ w -> (~2 w))"},
	} {
		var lines []string
		for i, f := range x[2:] {
			lines = append(lines, fmt.Sprint("~", i+1, " = ", f))
		}
		lifts(t, "(\\ a b c -> "+x[0]+")", "(\\ a b c -> "+x[1]+")", lines...)
		counts(t, "(\\ a b c -> "+x[0]+")", 1)
		knows(t, x[0], true)
	}
}

// P19.2: names are compared as they stand, though an inner one hides an outer one.
func TestNamesAsTheyStand(t *testing.T) {
	for text, want := range map[string]bool{
		"(let f = (\\ x -> x) in (\\ f -> f))":                         false,
		"(let f = (\\ x -> x) in (\\ f -> (f 1)))":                     true,
		"(let f = (\\ f -> f) in (f 1))":                               false,
		"(let f = (\\ f -> (f f)) in (f 1))":                           false,
		"(let f = (\\ f -> (f 1)) in (f 1))":                           true,
		"(let f = (\\ f g -> (f 1)) in (f 1 2))":                       false,
		"(let f = (\\ x -> x) in (let f = 1 in f))":                    false,
		"(let f = (\\ x -> x) in (let f = 1 in (f 1)))":                true,
		"(let f = (\\ x -> x) in (case 1 of f -> (g f)))":              false,
		"(let f = (\\ x -> x) in (case 1 of Cons f x -> (f x)))":       true,
		"(let f = (\\ x -> x) in (case 1 of f -> (let x = 1 in 2)))":   true,
		"(let f = (\\ x -> x); x = (\\ f -> 1) in (f 1))":              false,
		"(let g = (\\ x -> x) in (g 1))":                               true,
		"(let main = (\\ x -> (main x)) in (main 1))":                  true,
		"(let k = (\\ k2 -> (h k)) in 1)":                              false,
		"(let f = (\\ nowhere -> nobody) in (f nothing))":              true,
		"(let f = (\\ x -> (#add x x)) in (let e = (\\ x -> x) in 1))": true,
	} {
		knows(t, text, want)
	}
}

// several are so many names of a sign.
func several(sign string, n int) []string {
	var l []string
	for i := range n {
		l = append(l, fmt.Sprint(sign, i))
	}
	return l
}

// sum has some names in it.
func sum(names []string) string {
	text := "0"
	for _, name := range names {
		text = "(#add " + name + " " + text + ")"
	}
	return text
}

// fitting has a let with so many free variables, and one of so many Params, which is applied to as many arguments and to so many; names are free in a function e of one. Own names and those of the program's Binds count nothing.
func fitting(params, args int, free []string) string {
	ones := func(n int) string { return strings.Repeat(" 1", n) }
	f := "(\\ " + strings.Join(several("x", params), " ") + " -> (#add k (f" + ones(params) + ")))"
	e := "(\\ z -> (#add (e main h) " + sum(free) + "))"
	return "(let f = " + f + "; e = " + e + " in (#add (e 1) (f" + ones(args) + ")))"
}

// P19.1, P19.2: of Params and free variables together, and of arguments and free variables together, there are 32 at most.
func TestFits(t *testing.T) {
	for params := 1; params <= 32; params++ {
		for free := range 34 {
			for _, args := range []int{params, 31 - free, 32 - free, 33 - free} {
				if params <= args && args <= 32 {
					fits(t, params, args, several("y", free))
				}
			}
		}
	}
}

// fits holds all calls to what a let is that has so many of each.
func fits(t *testing.T, params, args int, free []string) {
	t.Helper()
	text := fitting(params, args, free)
	want := args+len(free) <= 32 && 2+len(free) <= 32 // e is applied to two, too.
	knows(t, text, want)
	for _, name := range free {
		text = "(\\ " + name + " -> " + text + ")"
	}
	counts(t, text, map[bool]int{true: 1}[want])
	p := program(text)
	q := lifted(t, p)
	if is := len(q.Binds) == len(p.Binds)+2; is != want {
		t.Errorf("%d Params, %d free, %d arguments: lifted is %v", params, len(free), args, is)
	}
	if w, err := refLifted(p); err != api.OK || !core.SameProg(q, w) {
		t.Errorf("Lift of %s:\n%s\nwant\n%s", text, brief(q), brief(w))
	}
}

// P19.1, P19.2: a lambda's Params count though it is nowhere applied.
func TestFitsThoughNotApplied(t *testing.T) {
	for params := 1; params <= 32; params++ {
		for free := range 33 {
			text := "(let f = (\\ " + strings.Join(several("x", params), " ") + " -> " + sum(several("y", free)) + ") in 1)"
			knows(t, text, params+free <= 32)
			// Own names and those of the program's Binds are not free.
			knows(t, strings.Replace(text, " 0", " (f h main"+strings.Repeat(" k", 30)+")", 1), free == 0 && params <= 32)
		}
	}
}
