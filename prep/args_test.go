package prep_test

import (
	"fmt"
	"strings"
	"testing"

	"thunkmill/api"
	"thunkmill/core"
	"thunkmill/prim"
)

// later are expressions that are no atoms, of each kind, prepared and not, and what is to become of each.
func later() [][2]string {
	same := func(text string) [2]string { return [2]string{text, text} }
	return [][2]string{
		same("(Nil)"), same("(g x)"), same("(\\ a -> a)"), same("(let a = 1 in a)"), same("(case x of 1 -> 2; a -> a)"), same("(#getc)"), same("(#add 1 x)"), same("(Cons 1 x)"),
		{"(g (h x))", "(let b = (h x) in (g b))"},
		{"(Cons 1 (Nil))", "(let b = (Nil) in (Cons 1 b))"},
		{"(\\ a -> (a (g a)))", "(\\ a -> (let b = (g a) in (a b)))"},
		{"(let a = (g (a 1)) in (g (Nil)))", "(let a = (let b = (a 1) in (g b)) in (let c = (Nil) in (g c)))"},
		{"(case (g (Nil)) of Nil -> (g (Nil)); a -> (#ret (a 1)))", "(case (let b = (Nil) in (g b)) of Nil -> (let c = (Nil) in (g c)); a -> (let d = (a 1) in (#ret d)))"},
		{"(#seq (g (Nil)) (#eof))", "(let b = (#eof) in (#seq (let c = (Nil) in (g c)) b))"},
	}
}

// atoms are expressions that are.
func atoms() []string { return []string{"x", "17", "'97'", "-5", "y", "main"} }

// holder is an expression but for so many of its Args, of which those from the place atoms on must be atoms.
type holder struct {
	head  string
	args  int
	atoms int
}

// holders are all constructors and primitives, and applications.
func holders() []holder {
	l := []holder{{"f", 1, 0}, {"f", 2, 0}, {"f", 5, 0}, {"(f 1)", 3, 0}, {"(\\ a b -> a)", 3, 0}}
	for _, c := range cons() {
		l = append(l, holder{c.Name, c.Arity, 0})
	}
	for _, name := range prim.Names() {
		l = append(l, holder{"#" + name, core.Arity(name), prim.Strict(name)})
	}
	return l
}

// filled is a holder's text with some of its Args no atoms, and what is to become of it. The further which is, the others these are.
func (h holder) filled(bound, which int) (from, want string) {
	was, is, binds := []string{h.head}, []string{h.head}, []string{}
	for i := range h.args {
		x := later()[(which+i)%len(later())]
		switch {
		case bound&(1<<i) == 0:
			x[0] = atoms()[(which+i)%len(atoms())]
			x[1] = x[0]
		case i >= h.atoms:
			name := fmt.Sprint("new", i)
			binds = append(binds, name+" = "+x[1])
			x[1] = name
		}
		was, is = append(was, x[0]), append(is, x[1])
	}
	from, want = "("+strings.Join(was, " ")+")", "("+strings.Join(is, " ")+")"
	if len(binds) > 0 {
		want = "(let " + strings.Join(binds, "; ") + " in " + want + ")"
	}
	return from, want
}

// P18.1: of the Args none must be bound, the first, one between, the last, all, and whatever others, in order from the left; strict ones are prepared where they stand.
func TestArgs(t *testing.T) {
	for _, h := range holders() {
		for bound := range 1 << h.args {
			for which := range len(later()) {
				from, want := h.filled(bound, which)
				becomes(t, from, want)
				if bound == 0 {
					stays(t, from)
				}
			}
		}
	}
}

// P18.1: as many Args as there may be.
func TestMostArgs(t *testing.T) {
	for _, args := range []int{31, 32} {
		for _, bound := range []int{1, 1 << (args - 1), 1<<args - 1, 0x55555555 & (1<<args - 1), 1 << 7} {
			from, want := (holder{"f", args, 0}).filled(bound, 3)
			becomes(t, from, want)
		}
	}
}

// P18.1: what is within Args, and within what they are bound to.
func TestWithin(t *testing.T) {
	for _, x := range [][2]string{
		{"((f (g x)) (h y))", "(let b = (h y) in ((let a = (g x) in (f a)) b))"},
		{"(((f (g 1)) (g 2)) (g 3))", "(let c = (g 3) in ((let b = (g 2) in ((let a = (g 1) in (f a)) b)) c))"},
		{"((let u = (g (h 1)) in u) (h 2))", "(let b = (h 2) in ((let u = (let a = (h 1) in (g a)) in u) b))"},
		{"((case (f (Nil)) of Nil -> (f (g 1)); _ -> f) (h 2))", "(let b = (h 2) in ((case (let a = (Nil) in (f a)) of Nil -> (let c = (g 1) in (f c)); _ -> f) b))"},
		{"(f (g (h (k x))))", "(let a = (let b = (let c = (k x) in (h c)) in (g b)) in (f a))"},
		{"(f (let u = (g 1); v = (h u) in (Cons u (Cons v (Nil)))))", "(let a = (let u = (g 1); v = (h u) in (let b = (let c = (Nil) in (Cons v c)) in (Cons u b))) in (f a))"},
		{"(f (let u = (let v = (g (h 1)) in (v 2)) in (u (v 3))))", "(let a = (let u = (let w = (let b = (h 1) in (g b)) in (w 2)) in (let c = (v 3) in (u c))) in (f a))"},
		{"(\\ x -> (f (\\ y -> (g (h x y)))))", "(\\ x -> (let a = (\\ y -> (let b = (h x y) in (g b))) in (f a)))"},
		{"(case x of Cons u v -> (f (g u) (h v)); Nil -> (Nil))", "(case x of Cons u v -> (let a = (g u); b = (h v) in (f a b)); Nil -> (Nil))"},
		{"(case (case x of 1 -> (f (g 1)); y -> y) of '97' -> (f (g 2)); z -> (z (g z)))", "(case (case x of 1 -> (let a = (g 1) in (f a)); y -> y) of '97' -> (let b = (g 2) in (f b)); z -> (let c = (g z) in (z c)))"},
		{"(let u = (Cons 1 (u 2)) in (f u u))", "(let u = (let a = (u 2) in (Cons 1 a)) in (f u u))"},
		{"(let u = (f (v 1)); v = (f (u 1)) in (f (Nil)))", "(let u = (let a = (v 1) in (f a)); v = (let b = (u 1) in (f b)) in (let c = (Nil) in (f c)))"},
		{"(#add (#mul (f (g 1)) 2) (#sub 3 (#ord '97')))", "(#add (#mul (let a = (g 1) in (f a)) 2) (#sub 3 (#ord '97')))"},
		{"(#seq (#seq (f (g 1)) (g 2)) (#seq 1 (g 3)))", "(let b = (let c = (g 3) in (#seq 1 c)) in (#seq (let d = (g 2) in (#seq (let a = (g 1) in (f a)) d)) b))"},
		{"(#error (Cons '97' (Nil)))", "(let a = (let b = (Nil) in (Cons '97' b)) in (#error a))"},
		{"(#show (#add 1 (#quot 2 0)))", "(#show (#add 1 (#quot 2 0)))"},
		{"(#bind (#bind (#getc) f) (\\ x -> (#ret (#add x 1))))", "(let a = (let b = (#getc) in (#bind b f)); c = (\\ x -> (let d = (#add x 1) in (#ret d))) in (#bind a c))"},
		{"(f (Nil) (Nil))", "(let a = (Nil); b = (Nil) in (f a b))"},
		{"(Four (g 1) 2 (g 3) '4')", "(let a = (g 1); b = (g 3) in (Four a 2 b '4'))"},
	} {
		becomes(t, x[0], x[1])
	}
}

// P18.1, P18.2: what is prepared already stays.
func TestPreparedStays(t *testing.T) {
	for _, text := range append(atoms(), "(\\ x -> x)", "(\\ x y z -> (x y z))", "(\\ x -> (\\ y -> (f x y)))", "(Nil)", "(Unit)", "(#getc)", "(#eof)", "(f 1)", "((f 1) 2)", "((\\ x -> x) y)", "((let u = 1 in f) 2)", "((case 1 of u -> u) 2)", "((#add 1 2) 3)", "((Nil) 1)",
		"(let u = (f u) in u)", "(let u = 1; v = '97'; w = x in u)", "(let u = (let v = 1 in v) in (let w = u in w))", "(case (f 1) of Cons u v -> (u v); Nil -> (Nil))", "(case (case 1 of _ -> 2) of 2 -> 3; u -> (f u))", "(#add (#add (f 1) (let u = 1 in u)) (case 1 of u -> u))", "(#seq (\\ x -> x) y)", "(#seq (Cons 1 2) 3)", "(#show (f 1))", "(#bind 1 '97')", "(Four 1 2 x '4')") {
		stays(t, text)
	}
}

// P18.1: several bindings, each prepared by itself.
func TestSeveralBindings(t *testing.T) {
	p, want := program(read("(a (b c) (d 1))")), program(read("(let n = (b c); m = (d 1) in (a n m))"))
	for i, x := range [][2]string{
		{"(\\ x -> (a (b x)))", "(\\ x -> (let n = (b x) in (a n)))"},
		{"(\\ x -> x)", "(\\ y -> y)"},
		{"(Cons 1 (Cons (a 2) (Nil)))", "(let n = (let m = (a 2); k = (Nil) in (Cons m k)) in (Cons 1 n))"},
		{"(let x = (x (x 1)) in c)", "(let x = (let n = (x 1) in (x n)) in c)"},
	} {
		p.Binds[i].E, want.Binds[i].E = read(x[0]), read(x[1])
	}
	if q := prepared(t, p); !core.SameProg(q, want) {
		t.Errorf("Prep of %s: %s, want %s", brief(p), brief(q), brief(want))
	}
	if names := fmt.Sprint(namesOf(p)); names != "[a b c d main]" {
		t.Errorf("the bindings are %s", names)
	}
}

// P18.1: a program of a main alone, and of no other constructors than the built-in ones.
func TestLeastPrograms(t *testing.T) {
	for _, text := range []string{"1", "main", "(main main)", "(\\ x -> main)"} {
		p := api.Prog{Cons: core.Builtin(), Binds: []api.Bind{{Name: "main", E: read(text)}}}
		if q := prepared(t, p); !core.SameProg(p, q) {
			t.Errorf("Prep of %s: %s", brief(p), brief(q))
		}
	}
}
