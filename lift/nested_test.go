package lift_test

import (
	"slices"
	"strings"
	"testing"

	"thunkmill/core"
	"thunkmill/lift"
)

// P19.1, P19.2: what becomes of a let hangs on those in it, which are lifted ahead of it; Count and Known tell of what stands there at first.
func TestInnerOnesFirst(t *testing.T) {
	for _, x := range []struct {
		count      int
		from, want string
		lines      []string
	}{
		// The inner one's new applications name the outer one's free variables.
		{2, "(\\ y -> (let f = (\\ x -> (let e = (\\ z -> (#add y z)) in (e x))) in (f 1)))", "(\\ y -> (~2 y 1))", []string{"~1 = (\\ a z -> (#add a z))", "~2 = (\\ a x -> (~1 a x))"}},
		{2, "(\\ y -> (let f = (\\ x -> (let e = (\\ z -> (#add y (#add x z))) in (e x))) in (f 1)))", "(\\ y -> (~2 y 1))", []string{"~1 = (\\ a b z -> (#add b (#add a z)))", "~2 = (\\ a x -> (~1 x a x))"}},
		{3, "(\\ y w -> (let f = (\\ x -> (let e = (\\ z -> (let d = (\\ u -> (y u)) in (d w))) in (e x))) in (f 1)))", "(\\ y w -> (~3 w y 1))", []string{"~1 = (\\ a u -> (a u))", "~2 = (\\ a b z -> (~1 b a))", "~3 = (\\ a b x -> (~2 a b x))"}},
		// One that is nowhere applied leaves nothing free behind it.
		{2, "(\\ y -> (let f = (\\ x -> (let e = (\\ z -> y) in x)) in (f 1)))", "(\\ y -> (~2 1))", []string{"~1 = (\\ a z -> a)", "~2 = (\\ x -> x)"}},
		{2, "(\\ y -> (let f = (\\ x -> (let e = (\\ z -> (e y)) in x)) in (f 1)))", "(\\ y -> (~2 1))", []string{"~1 = (\\ a z -> (~1 a a))", "~2 = (\\ x -> x)"}},
		// An outer one's name becomes an argument: it is not known any more.
		{2, "(let f = (\\ x -> x) in (let e = (\\ y -> (f y)) in (e 1)))", "(let f = (\\ x -> x) in (~1 f 1))", []string{"~1 = (\\ a y -> (a y))"}},
		{2, "(let f = (\\ x -> (let e = (\\ y -> (f y)) in (e x))) in (f 1))", "(let f = (\\ x -> (~1 f x)) in (f 1))", []string{"~1 = (\\ a y -> (a y))"}},
		{2, "(let f = (\\ x -> (let e = (\\ y -> (f x)) in (e 2))); d = (\\ z -> (f z)) in (d 1))", "(let f = (\\ x -> (~1 f x 2)); d = (\\ z -> (f z)) in (d 1))", []string{"~1 = (\\ a b y -> (a b))"}},
		{3, "(let f = (\\ x -> x) in (let e = (\\ y -> (f y)) in (let d = (\\ z -> (e z)) in (d 1))))", "(let e = (\\ y -> (~2 y)) in (~1 e 1))", []string{"~1 = (\\ a z -> (a z))", "~2 = (\\ x -> x)"}},
		// Nobody applies the inner one: so the outer one's name is no argument, and what it was one of is away.
		{2, "(let f = (\\ x -> x) in (let e = (\\ y -> (f y)) in (f 2)))", "(~2 2)", []string{"~1 = (\\ a y -> (a y))", "~2 = (\\ x -> x)"}},
		{1, "(let f = (\\ x -> x) in (let e = (\\ y -> (g f y)) in (f 2)))", "(~2 2)", []string{"~1 = (\\ a y -> (g a y))", "~2 = (\\ x -> x)"}},
		{1, "(let f = (\\ x x2 -> x) in (let e = (\\ y -> (f y)) in (f 2 3)))", "(~2 2 3)", []string{"~1 = (\\ a y -> (a y))", "~2 = (\\ x x2 -> x)"}},
		{1, "(\\ w -> (let f = (\\ x -> w); d = (\\ z -> (let e = (\\ y -> (g f w)) in (f z))) in (d 2)))", "(\\ w -> (~3 w 2))", []string{"~1 = (\\ a b y -> (g a b))", "~2 = (\\ a x -> a)", "~3 = (\\ a z -> (~2 a z))"}},
		// The free variables are names of other lets, and of what is bound in lambdas and alternatives.
		{1, "(let t = (g 1 2) in (let f = (\\ x -> (#add t x)) in (f t)))", "(let t = (g 1 2) in (~1 t t))", []string{"~1 = (\\ a x -> (#add a x))"}},
		{1, "(let t = (g 1 s); s = (\\ w -> (let f = (\\ x -> (s t)) in (f w))) in (h s))", "(let t = (g 1 s); s = (\\ w -> (~1 s t w)) in (h s))", []string{"~1 = (\\ a b x -> (a b))"}},
		{1, "(\\ a -> (case a of Cons b c -> (let f = (\\ x -> (a b c)) in (f b)); d -> d))", "(\\ a -> (case a of Cons b c -> (~1 a b c b); d -> d))", []string{"~1 = (\\ u v w x -> (u v w))"}},
		// One that stays, around one that does not, and within.
		{1, "(let f = (\\ x -> (let e = (\\ y -> x) in (e 1))) in f)", "(let f = (\\ x -> (~1 x 1)) in f)", []string{"~1 = (\\ a y -> a)"}},
		{1, "(let f = (\\ x -> (let e = (\\ y -> x) in e)) in (f 1))", "(~1 1)", []string{"~1 = (\\ x -> (let e = (\\ y -> x) in e))"}},
		{1, "(let f = (\\ x -> x) in (let e = (\\ y -> (f y)) in (g e)))", "(let e = (\\ y -> (~1 y)) in (g e))", []string{"~1 = (\\ x -> x)"}},
		{1, "(\\ w -> (let f = (\\ x -> w) in (let e = (\\ y -> (f y)) in (g e))))", "(\\ w -> (let e = (\\ y -> (~1 w y)) in (g e)))", []string{"~1 = (\\ a x -> a)"}},
		// Two side by side, of which one's function is nothing to the other.
		{2, "(\\ a -> (#add (let f = (\\ x -> a) in (f 1)) (let e = (\\ y -> (a y)) in (e 2))))", "(\\ a -> (#add (~1 a 1) (~2 a 2)))", []string{"~1 = (\\ b x -> b)", "~2 = (\\ b y -> (b y))"}},
		// In what is lifted the inner one's arguments are its new Params.
		{2, "(\\ a b -> (let f = (\\ x -> (let e = (\\ y -> (#sub a (#sub b (#sub x y)))) in (#add (e 1) (f x)))) in (f b)))", "(\\ a b -> (~2 a b b))", []string{"~1 = (\\ u v w y -> (#sub u (#sub v (#sub w y))))", "~2 = (\\ u v x -> (#add (~1 u v x 1) (~2 u v x)))"}},
	} {
		lifts(t, x.from, x.want, x.lines...)
		counts(t, x.from, x.count)
	}
}

// P19.1: what was lifted, and what is in a let's body, is not gone into again, though lets there fit then.
func TestNotGoneIntoAgain(t *testing.T) {
	free := slices.Sorted(slices.Values(several("y", 31)))
	names := strings.Join(free, " ")
	for _, x := range []struct{ from, want, line string }{
		{"(let f = (\\ x -> x) in (let e = (\\ z -> (#add (f z) %)) in (e 1)))", "(let e = (\\ z -> (#add (~1 z) %)) in (e 1))", "~1 = (\\ x -> x)"},
		{"(let f = (\\ x -> (let e = (\\ z -> (#add (f z) %)) in (e 1))) in (f 2))", "(~1 @ 2)", "~1 = (\\ @ x -> (let e = (\\ z -> (#add (~1 @ z) %)) in (e 1)))"},
	} {
		in := strings.NewReplacer("%", sum(free), "@", names)
		from, want := "(\\ "+names+" -> "+in.Replace(x.from)+")", "(\\ "+names+" -> "+in.Replace(x.want)+")"
		lifts(t, from, want, in.Replace(x.line))
		counts(t, from, 1)
		p := lifted(t, program(from))
		if q := lifted(t, p); lift.Count(p) != 1 || len(q.Binds) != len(p.Binds)+1 || core.SameProg(p, q) {
			t.Errorf("Lift again of %s: Count is %d", brief(p), lift.Count(p))
		}
	}
}

// P19.1: what stands around a let that was lifted is held to the words as it stands then; Count tells of what stands there at first.
func TestAsItStandsThen(t *testing.T) {
	for _, x := range []struct {
		count      int
		from, want string
		lines      []string
	}{
		// A right side becomes a lambda.
		{1, "(let f = (let e = (\\ x -> x) in (\\ y -> y)) in (f 1))", "(~2 1)", []string{"~1 = (\\ x -> x)", "~2 = (\\ y -> y)"}},
		{1, "(\\ z -> (let f = (let e = (\\ x -> z) in (\\ y -> (e y))) in (f 1)))", "(\\ z -> (~2 z 1))", []string{"~1 = (\\ a x -> a)", "~2 = (\\ a y -> (~1 a y))"}},
		{1, "(let f = (let e = (let d = (\\ x -> x) in (\\ y -> (d y))) in (\\ z -> (e z))) in (f 1))", "(~3 1)", []string{"~1 = (\\ x -> x)", "~2 = (\\ y -> (~1 y))", "~3 = (\\ z -> (~2 z))"}},
		{2, "(let f = (let e = (\\ x -> x) in (let d = (\\ y -> (e y)) in (\\ z -> (d z)))) in (f 1))", "(let f = (let e = (\\ x -> x) in (\\ z -> (~1 e z))) in (f 1))", []string{"~1 = (\\ a y -> (a y))"}},
		{2, "(let f = (let e = (\\ x -> x) in (let d = (\\ y -> y) in (\\ z -> (d z)))) in (f 1))", "(~3 1)", []string{"~1 = (\\ y -> y)", "~2 = (\\ x -> x)", "~3 = (\\ z -> (~1 z))"}},
		{2, "(let f = (let e = (\\ x -> x) in (\\ y -> (f2 y))); f2 = (let d = (\\ z -> z) in (\\ w -> (f w))) in (f 1))", "(~3 1)", []string{"~1 = (\\ x -> x)", "~2 = (\\ z -> z)", "~3 = (\\ y -> (~4 y))", "~4 = (\\ w -> (~3 w))"}},
		{1, "(let f = (let e = (\\ x -> x) in (\\ y -> y)) in 1)", "1", []string{"~1 = (\\ x -> x)", "~2 = (\\ y -> y)"}},
		// It does not, or does not fit.
		{1, "(let f = (let e = (\\ x -> x) in (\\ y z -> y)) in (f 1))", "(let f = (\\ y z -> y) in (f 1))", []string{"~1 = (\\ x -> x)"}},
		{1, "(let f = (let e = (\\ x -> x) in (e 1)) in (f 1))", "(let f = (~1 1) in (f 1))", []string{"~1 = (\\ x -> x)"}},
		{1, "(let f = (let e = (\\ x -> x) in h) in (f 1))", "(let f = h in (f 1))", []string{"~1 = (\\ x -> x)"}},
		{0, "(let f = (let e = 7 in (\\ y -> y)) in (f 1))", "(let f = (let e = 7 in (\\ y -> y)) in (f 1))", nil},
		{1, "(let f = (let e = 7 in (let d = (\\ x -> x) in (\\ y -> y))) in (f 1))", "(let f = (let e = 7 in (\\ y -> y)) in (f 1))", []string{"~1 = (\\ x -> x)"}},
		{1, "(let f = (let d = (\\ x -> x) in (let e = 7 in (\\ y -> y))) in (f 1))", "(let f = (let e = 7 in (\\ y -> y)) in (f 1))", []string{"~1 = (\\ x -> x)"}},
		{1, "(let f = (let e = (\\ x -> x) in (\\ y -> y)) in f)", "(let f = (\\ y -> y) in f)", []string{"~1 = (\\ x -> x)"}},
		// The function of an application becomes a name.
		{1, "(let f = (\\ y -> y) in ((let e = (\\ x -> x) in f) 1))", "(~2 1)", []string{"~1 = (\\ x -> x)", "~2 = (\\ y -> y)"}},
		{1, "(\\ z -> (let f = (\\ y -> z) in ((let e = (\\ x -> x) in f) 1)))", "(\\ z -> (~2 z 1))", []string{"~1 = (\\ x -> x)", "~2 = (\\ a y -> a)"}},
		{2, "(\\ z -> (let f = (\\ y -> z) in ((let e = (\\ x -> x) in (let d = (\\ w -> w) in f)) z)))", "(\\ z -> (~3 z z))", []string{"~1 = (\\ w -> w)", "~2 = (\\ x -> x)", "~3 = (\\ a y -> a)"}},
		{1, "(\\ z -> (let f = (\\ y -> ((let e = (\\ x -> z) in f) y)) in (f 1)))", "(\\ z -> (~2 1))", []string{"~1 = (\\ a x -> a)", "~2 = (\\ y -> (~2 y))"}},
		{1, "((let e = (\\ x -> x) in h) 1)", "(h 1)", []string{"~1 = (\\ x -> x)"}},
		{1, "(\\ h2 -> ((let e = (\\ x -> (h2 x)) in h2) 1))", "(\\ h2 -> (h2 1))", []string{"~1 = (\\ a x -> (a x))"}},
		{1, "(let f = (\\ y -> y) in ((let e = (let d = (\\ x -> x) in (\\ w -> w)) in f) 1))", "(~3 1)", []string{"~1 = (\\ x -> x)", "~2 = (\\ w -> w)", "~3 = (\\ y -> y)"}},
		// It does not, or its let does not fit.
		{1, "(let f = (\\ y w -> y) in ((let e = (\\ x -> x) in f) 1))", "(let f = (\\ y w -> y) in (f 1))", []string{"~1 = (\\ x -> x)"}},
		{0, "(let f = (\\ y -> y) in ((let e = 7 in f) 1))", "(let f = (\\ y -> y) in ((let e = 7 in f) 1))", nil},
		{1, "(let f = (\\ y -> y) in ((let d = (\\ x -> x) in (let e = 7 in f)) 1))", "(let f = (\\ y -> y) in ((let e = 7 in f) 1))", []string{"~1 = (\\ x -> x)"}},
		{0, "((let f = (\\ y -> y) in f) 1)", "((let f = (\\ y -> y) in f) 1)", nil},
		{1, "((let f = (\\ y -> y) in (let e = (\\ x -> x) in f)) 1)", "((let f = (\\ y -> y) in f) 1)", []string{"~1 = (\\ x -> x)"}},
		{1, "(let f = (\\ y -> y) in ((let e = (\\ x -> (f x)) in f) 1))", "(~2 1)", []string{"~1 = (\\ a x -> (a x))", "~2 = (\\ y -> y)"}},
		{2, "(let f = (\\ y -> y) in ((let e = (\\ x -> x) in (f 1)) 2))", "((~2 1) 2)", []string{"~1 = (\\ x -> x)", "~2 = (\\ y -> y)"}},
		// Both at once.
		{2, "(\\ z -> (let f = (let e = (\\ x -> x) in (\\ y -> (e z))) in ((let d = (\\ w -> w) in f) 1)))", "(\\ z -> (~3 z 1))", []string{"~1 = (\\ x -> x)", "~2 = (\\ w -> w)", "~3 = (\\ a y -> (~1 a))"}},
	} {
		lifts(t, x.from, x.want, x.lines...)
		counts(t, x.from, x.count)
	}
}
