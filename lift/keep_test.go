package lift_test

import (
	"math/rand"
	"testing"

	"thunkmill/api"
	"thunkmill/lift"
	"thunkmill/model"
	"thunkmill/prep"
	"thunkmill/testkit"
)

// fed is an input, with a mark behind it or none.
type fed struct {
	bytes string
	ended bool
}

func inputs() []string { return []string{"", "a", "b", "ab", "abcd", "\x00\xff\n"} }

// ran is a program's outcome.
func ran(t *testing.T, p api.Prog, in fed, fuel int) api.Outcome {
	t.Helper()
	o, err := model.Run(p, []byte(in.bytes), in.ended, fuel)
	if err != api.OK {
		t.Fatalf("Run of %s: error %d", brief(p), err)
	}
	return o
}

// doesTheSame holds a lifted program to doing what the program does, and tells how the program ended.
func doesTheSame(t *testing.T, p, q api.Prog, in fed, fuel int) int {
	t.Helper()
	a, b := ran(t, p, in, fuel), ran(t, q, in, fuel)
	if a.Kind != api.EndFuel && !model.Same(a, b) {
		t.Fatalf("on %v with fuel %d: %+v of %s\n%+v of %s", in, fuel, a, brief(p), b, brief(q))
	}
	if b.Kind == api.EndFuel {
		return a.Kind
	}
	if a := ran(t, p, in, api.MaxFuel); !model.Same(a, b) || a.Steps < b.Steps {
		t.Fatalf("on %v with fuel %d: %+v of %s\n%+v of %s, lifted", in, fuel, a, brief(p), b, brief(q))
	}
	return a.Kind
}

// P19.4: over programs, inputs and fuels made by chance, and the least fuel by which each of the two ends.
func TestDoesTheSame(t *testing.T) {
	t.Parallel()
	chance := rand.New(rand.NewSource(194))
	ends, less := map[int]int{}, 0
	for _, p := range made(t, 193, 2000) {
		q := lifted(t, p)
		for range 4 {
			in := fed{inputs()[chance.Intn(len(inputs()))], chance.Intn(2) == 0}
			fuel := chance.Intn(1 << (1 + chance.Intn(12)))
			was, is := ran(t, p, in, fuel).Steps, ran(t, q, in, fuel).Steps
			if is < was {
				less++
			}
			for _, fuel := range []int{fuel, was, is} {
				ends[doesTheSame(t, p, q, in, fuel)]++
			}
		}
	}
	for _, kind := range []int{api.EndExit, api.EndError, api.EndNeed, api.EndWrong, api.EndLoop, api.EndFuel} {
		if ends[kind] < 100 {
			t.Errorf("%d runs only end by %d", ends[kind], kind)
		}
	}
	if less < 2000 {
		t.Errorf("%d runs only take fewer steps", less)
	}
}

// P19.4: what a program evaluates once, or never, is so still; what it does is done in order; by each fuel.
func TestDoesTheSameByEachFuel(t *testing.T) {
	known := 0
	for _, text := range []string{
		"(let f = (\\ x -> (#exit x)) in (f 3))", "(\\ y -> y)", "(let f = (\\ x y -> (#exit x)) in (f 3 (#error (Nil))))", "(let t = (#add 1 2) in (let f = (\\ x -> (#exit (#add t t))) in (f t)))",
		"(let t = (let u = (g 1 2) in (g u u)) in (let f = (\\ x -> (#add t (#add x t))) in (let e = (f t) in (#exit e))))",
		"(let f = (\\ n -> (case n of 0 -> (#ret 0); _ -> (let m = (#sub n 1) in (let a = (#putc '97') in (let b = (\\ u -> (f m)) in (#bind a b)))))) in (f 4))",
		"(let even = (\\ n -> (case n of 0 -> (True); _ -> (let m = (#sub n 1) in (odd m)))); odd = (\\ n2 -> (case n2 of 0 -> (False); _ -> (let m2 = (#sub n2 1) in (even m2)))) in (case (even 6) of True -> (#exit 1); False -> (#exit 2)))",
		"(let echo = (\\ u -> (let e = (#eof) in (let b = (\\ end -> (case end of True -> (#exit 0); False -> (let c = (#getc) in (let k2 = (\\ x -> (let w = (#putc x) in (#bind w echo2))) in (#bind c k2))))) in (#bind e b)))); echo2 = (\\ u2 -> (echo u2)) in (echo 1))",
		"(let ones = (Cons 1 ones) in (let f = (\\ n -> (case n of 0 -> 0; _ -> (let m = (#sub n 1) in (case ones of Cons a b -> (#add a (f m)))))) in (let x = (f 5) in (#exit x))))",
		"(let f = (\\ x -> (f x)) in (f 1))", "(let t = (f t); f = (\\ x -> (#add x 1)) in (#exit t))", "(let t = 1 in (let f = (\\ x -> (g x t 3)) in (f 2)))", "(let f = (\\ x -> h) in (#exit (f 1 2)))", "(let f = (\\ x -> (#exit x)) in (f 1 2))", "(let f = (\\ x -> 7) in (f 1 2))",
		"(let f = (\\ x -> (#error x)) in (let s = (Cons '97' s) in (let n = (Nil) in (let e = (Cons '98' n) in (f e)))))", "(let f = (\\ x -> (case x of 1 -> 2)) in (f 3))", "(let f = (\\ x -> (#quot 1 x)) in (let e = (f 0) in (#exit e)))",
		"(let f = (\\ x -> x) in (let e = (\\ y -> (f y)) in (let a = (e 1) in (#exit a))))", "(let f = (\\ x -> (let e = (\\ y -> (#add x y)) in (let a = (e 1) in (#add a (e 2))))) in (let b = (f 10) in (let c = (f b) in (#exit c))))",
	} {
		p, err := prep.Prep(program(text))
		if err != api.OK {
			t.Fatalf("Prep of %s: error %d", text, err)
		}
		q := lifted(t, p)
		for _, input := range inputs() {
			for _, in := range []fed{{input, false}, {input, true}} {
				for fuel := range 120 {
					doesTheSame(t, p, q, in, fuel)
				}
			}
		}
		known += lift.Count(p)
	}
	if known < 15 {
		t.Errorf("%d lets only are known", known)
	}
}

// P19.3: what was lifted may be lifted again, and does the same.
func TestLiftedAgain(t *testing.T) {
	for _, p := range append(made(t, 195, 300), testkit.Together(number(1))) {
		q := lifted(t, p)
		r := lifted(t, q)
		in := fed{"ab", true}
		if a, b := ran(t, q, in, 3000), ran(t, r, in, 3000); a.Kind != api.EndFuel && !model.Same(a, b) {
			t.Fatalf("%+v, then %+v of %s", a, b, brief(r))
		}
	}
}
