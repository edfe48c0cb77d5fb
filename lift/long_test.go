package lift_test

import (
	"strings"
	"testing"

	"thunkmill/api"
	"thunkmill/core"
	"thunkmill/lift"
	"thunkmill/testkit"
)

// growing are expressions that have more parts once they are lifted, or fewer, or as many.
func growing() []string {
	thirty := several("y", 30)
	return []string{
		"1", "(let f = (\\ x -> x) in f)", "(let f = (\\ x -> x) in 1)", "(let f = (\\ x -> x) in (f 1))",
		"(\\ a -> (let f = (\\ x -> a) in (f 1)))", "(\\ a -> (let f = (\\ x -> a) in (#add (f 1) (f 2))))", "(\\ a b -> (let f = (\\ x -> (a b)) in (f 1)))", "(\\ a b c -> (let f = (\\ x -> (f a b c)) in (f 1)))",
		"(\\ a -> (let f = (\\ x -> (e x a)); e = (\\ y z -> (f y)) in (#add (f 1) (e 2 3))))",
		"(\\ a -> (let f = (\\ x -> (let e = (\\ z -> (#add a x)) in (#sub (e 1) (e 2)))) in (#add (f 1) (f 2))))",
		"(\\ a -> (let f = (\\ x -> (let e = (\\ z -> (#add a x)) in 1)) in (#add (f 1) (f 2))))",
		"(#add (\\ a -> (let f = (\\ x -> a) in (#add (f 1) (f 2)))) (let e = (\\ x2 -> x2) in (e 1)))",
		"(let f = (\\ x -> x) in (let e = (\\ y -> (f y)) in (#add (e 1) (e 2))))", "(let f = (\\ x -> x) in (let e = (\\ y -> (f y)) in (f 1)))",
		"(\\ " + strings.Join(thirty, " ") + " -> (let f = (\\ x -> (f " + strings.Join(thirty[:2], " ") + ")) in (#add (f 1) (#add (f 2) " + sum(thirty) + "))))",
		"(\\ " + strings.Join(thirty, " ") + " -> (let f = (\\ x -> " + sum(thirty) + ") in (#add (f 1) (#add (f 2) (f 3)))))",
	}
}

// P19.1: a lifted program of as many expressions as there may be, and of one more, though the program itself has as many as there may be, or fewer.
func TestTooMany(t *testing.T) {
	t.Parallel()
	grown := 0
	for _, text := range growing() {
		e := read(text)
		want, err := refLifted(testkit.Together(e, number(1)))
		if err != api.OK {
			t.Fatalf("the reference refuses %s: %d", text, err)
		}
		more := testkit.SizeOf(want) - 1 - core.Size(e)
		most := api.MaxNodes - core.Size(e) // what may stand beside it
		fits := most - max(0, more)
		q := lifted(t, testkit.Together(e, testkit.Flat(fits)))
		if testkit.SizeOf(q) != core.Size(e)+more+fits {
			t.Errorf("Lift of %s and others: %d expressions, %d more", text, testkit.SizeOf(q), more)
		}
		if more <= 0 {
			refuses(t, text, testkit.Together(e, testkit.Flat(most+1)), api.ErrArg)
			continue
		}
		grown++
		refuses(t, text, testkit.Together(e, testkit.Flat(fits+1)), api.ErrLong)
		refuses(t, text+", the last one", testkit.Together(testkit.Flat(most), e), api.ErrLong)
	}
	if grown < 5 {
		t.Errorf("%d programs only have grown", grown)
	}
}

// P19.1: what grows and what shrinks counts together, whatever comes first.
func TestShrinksAsItGrows(t *testing.T) {
	one := "(\\ a -> (let f = (\\ x -> a) in (#add (f 1) (f 2))))" // one more
	less := "(let e = (\\ z -> z) in (e 1))"                       // one less
	for _, l := range [][]string{{one, less}, {less, one}, {less, one, one, less}, {one, one, less, less}} {
		size := 0
		var all []api.Expr
		for i, text := range l {
			for _, name := range []string{"a", "f", "x", "e", "z"} {
				text = strings.ReplaceAll(text, " "+name, " "+name+string(rune('0'+i)))
				text = strings.ReplaceAll(text, "("+name, "("+name+string(rune('0'+i)))
			}
			e := read(text)
			size += core.Size(e)
			all = append(all, e)
		}
		for more := range 2 {
			p := testkit.Together(append(all, testkit.Flat(api.MaxNodes-size+more))...)
			if more == 1 {
				refuses(t, l[0], p, api.ErrArg)
			} else if q := lifted(t, p); testkit.SizeOf(q) != api.MaxNodes {
				t.Errorf("%d expressions", testkit.SizeOf(q))
			}
		}
		all = append(all, read("(\\ a -> (let f = (\\ x -> a) in (#add (f 1) (f 2))))"))
		refuses(t, l[0], testkit.Together(append(all, testkit.Flat(api.MaxNodes-size-core.Size(read(one))))...), api.ErrLong)
	}
}

// P19.1: a program that is nested as deep as may be is lifted: what comes of it is never deeper.
func TestNeverDeeper(t *testing.T) {
	for _, text := range growing() {
		e := read(text)
		deep := refDeep(&e)
		for _, less := range []int{0, 1, 2} {
			p := testkit.Together(number(1), inCases(e, api.MaxNest-deep-less))
			q := lifted(t, p)
			if want, err := refLifted(p); err != api.OK || !core.SameProg(q, want) || deepest(q) > api.MaxNest-less {
				t.Errorf("Lift of %s, nested %d deep: error %d, %d deep then", text, deepest(p), err, deepest(q))
			}
		}
		refuses(t, text, testkit.Together(number(1), inCases(e, api.MaxNest-deep+1)), api.ErrArg)
	}
}

// inCases is an expression in so many choices.
func inCases(e api.Expr, n int) api.Expr {
	for range n {
		e = api.Expr{Kind: api.ExCase, Args: list(number(1)), Alts: []api.Alt{{Kind: api.AltElse, E: e}}}
	}
	return e
}

// P19.1: lets that are nested as deep as may be, in right sides and in bodies.
func TestDeepLets(t *testing.T) {
	t.Parallel()
	for what, x := range map[string]struct {
		deep int // so much deeper it is than what is in it
		of   func(e api.Expr, name string) api.Expr
	}{
		"in bodies":      {1, func(e api.Expr, name string) api.Expr { return letOf(name, read("(\\ "+name+"x -> 1)"), e) }},
		"in right sides": {2, func(e api.Expr, name string) api.Expr { return letOf(name, lambda(e, name+"x"), read("("+name+" 1)")) }},
		"free variables": {1, func(e api.Expr, name string) api.Expr { return letOf(name, read("(\\ "+name+"x -> y)"), e) }},
		"free, in right": {2, func(e api.Expr, name string) api.Expr { return letOf(name, lambda(e, name+"x"), read("("+name+" y)")) }},
	} {
		e, names := read("(g y)"), several("f", (api.MaxNest-3)/x.deep)
		n := len(names)
		for _, name := range names {
			e = x.of(e, name)
		}
		p := testkit.Together(number(1), lambda(e, "y"))
		p.Binds[0].Name = "g"
		q := lifted(t, p)
		if len(q.Binds) != n+2 || lift.Count(p) != n || deepest(p) < api.MaxNest-1 {
			t.Errorf("%s: %d of %d lets were lifted, Count is %d", what, len(q.Binds)-2, n, lift.Count(p))
		}
		if !lift.Known(p, p.Binds[1].E.Args[0]) {
			t.Errorf("%s: Known is false", what)
		}
	}
}

// letOf is a let of one name.
func letOf(name string, e, body api.Expr) api.Expr {
	return api.Expr{Kind: api.ExLet, Binds: []api.Bind{{Name: name, E: e}}, Args: list(body)}
}

func lambda(body api.Expr, params ...string) api.Expr {
	return api.Expr{Kind: api.ExLam, Params: params, Args: list(body)}
}
