package prep_test

import (
	"testing"

	"thunkmill/api"
	"thunkmill/core"
	"thunkmill/model"
	"thunkmill/prep"
	"thunkmill/testkit"
)

// fed is an input, with a mark behind it or none.
type fed struct {
	bytes string
	ended bool
}

// ran is a program's outcome.
func ran(t *testing.T, p api.Prog, in fed, fuel int) api.Outcome {
	t.Helper()
	o, err := model.Run(p, []byte(in.bytes), in.ended, fuel)
	if err != api.OK {
		t.Fatalf("Run of %s: error %d", brief(p), err)
	}
	return o
}

// doesTheSame holds a prepared program to doing what the program does; and tells how that ended.
func doesTheSame(t *testing.T, p, q api.Prog, in fed, fuel int) int {
	t.Helper()
	a := ran(t, p, in, fuel)
	if b := ran(t, q, in, 3*fuel+3); a.Kind != api.EndFuel && !model.Same(a, b) {
		t.Fatalf("on %v with fuel %d: %+v of %s\n%+v of %s", in, fuel, a, brief(p), b, brief(q))
	}
	if b := ran(t, q, in, fuel); b.Kind != api.EndFuel && !model.Same(a, b) {
		t.Fatalf("on %v with fuel %d: %+v of %s\n%+v of %s, prepared", in, fuel, a, brief(p), b, brief(q))
	}
	return a.Kind
}

// least is the least fuel by which a program's run ends as it does by a fuel.
func least(t *testing.T, p api.Prog, in fed, fuel int) int {
	t.Helper()
	return ran(t, p, in, fuel).Steps
}

// P18.4: over programs, inputs and fuels made by chance, and the least fuel by which each of the two ends.
func TestDoesTheSame(t *testing.T) {
	t.Parallel()
	m := seeded(184)
	ends := map[int]int{}
	for i := range 5000 {
		p := m.Program()
		if i%5 == 0 {
			p, _ = m.ByTable()
		}
		q := prepared(t, p)
		for range 3 {
			in := fed{bytes: inputs()[m.Chance.Intn(len(inputs()))], ended: m.Chance.Intn(2) == 0}
			fuel := m.Chance.Intn(1 << (1 + m.Chance.Intn(11)))
			for _, fuel := range []int{fuel, least(t, p, in, fuel), least(t, q, in, fuel)} {
				ends[doesTheSame(t, p, q, in, fuel)]++
			}
		}
	}
	for _, kind := range []int{api.EndExit, api.EndError, api.EndNeed, api.EndWrong, api.EndLoop, api.EndFuel} {
		if ends[kind] < 100 {
			t.Errorf("%d runs only end by %d", ends[kind], kind)
		}
	}
}

func inputs() []string { return []string{"", "a", "b", "ab", "abcd", "\x00\xff\n"} }

// P18.4: what a program evaluates once, or never, is so still; what it does is done in order.
func TestEvaluatedOnceOrNever(t *testing.T) {
	for _, text := range []string{
		"((\\ a -> (#exit 3)) (#error (Nil)))", "((\\ a -> (#exit a)) (#add 1 (#mul 2 3)))", "((\\ a -> (#seq a (#exit (#add a a)))) (f (f (f 7))))",
		"(case (Cons (#error (Nil)) (g (g 2))) of Cons a b -> (#exit b))", "(case (Pair (#putc '97') (#getc)) of Pair a b -> (#bind a (\\ u -> (#bind b (\\ c -> (#putc c))))))",
		"(#bind (#putc (#chr (#add 96 1))) (\\ u -> (#bind (#putc (#chr (g 98))) (\\ w -> (#ret (#error (Nil)))))))", "(#bind (#ret (#error (Cons '97' (Nil)))) (\\ x -> (#ret x)))", "(#bind (#ret (#error (Cons '97' (#error (Nil))))) (\\ x -> (#exit x)))",
		"(let ones = (Cons (g 1) ones) in (case ones of Cons a b -> (case b of Cons c d -> (#exit (#add a c)))))", "(let x = (f x) in (#seq x (#exit 1)))", "(let x = (Cons x (Cons x (Nil))) in (case x of Cons y z -> (#exit 4)))",
		"(#exit (#seq (#error (Cons '98' (Nil))) (#error (Nil))))", "(#exit ((f (\\ a b -> (#sub a b))) (f 9) (g 3)))", "(#exit (((\\ a -> (\\ b -> (#sub a b))) (f 9)) (g 3)))", "(#seq (Cons (#error (Nil)) (Nil)) (#exit 1))", "(#seq (\\ x -> (#error (Nil))) (#exit 1))",
		"((Cons 1 (Nil)) (f 1))", "(1 (#error (Nil)))", "(case (f 1) of 2 -> (f (f 1)))", "(case (Nil) of 2 -> (f (f 1)))", "(#putc (f 1))", "(#exit (#ord (f 1)))", "(f (f (f 1)))", "(#bind (f 1) (f 2))", "(#bind (#getc) (f 2))", "(#bind (#eof) (\\ b -> (case b of True -> (#exit 1); False -> (#bind (#getc) (\\ c -> main)))))",
	} {
		p := testkit.Prog("f = (\\ x -> x)", "g = (\\ x -> (#add (f x) (f 1)))", "main = "+text)
		q := prepared(t, p)
		for _, input := range inputs() {
			for _, in := range []fed{{input, false}, {input, true}} {
				for fuel := range 80 {
					doesTheSame(t, p, q, in, fuel)
				}
				if doesTheSame(t, p, q, in, 5000) == api.EndFuel {
					t.Errorf("%s has no end", text)
				}
			}
		}
	}
}

// P18.3, P18.4: what comes of what was prepared is prepared, may be, and does the same.
func TestPreparedAgain(t *testing.T) {
	m := seeded(185)
	for range 500 {
		p := m.Program()
		q := prepared(t, p)
		r := prepared(t, q)
		if !core.SameProg(q, r) || !prep.Prepared(r) {
			t.Fatalf("Prep again of %s: %s", brief(q), brief(r))
		}
		in := fed{"abc", true}
		if a, b := ran(t, q, in, 2000), ran(t, r, in, 2000); !model.Same(a, b) || a.Steps != b.Steps {
			t.Fatalf("%+v, then %+v of %s", a, b, brief(r))
		}
	}
}
