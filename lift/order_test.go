package lift_test

import (
	"fmt"
	"slices"
	"strings"
	"testing"

	"thunkmill/api"
	"thunkmill/core"
	"thunkmill/lift"
	"thunkmill/prim"
	"thunkmill/testkit"
)

// local is a let of one function that is known by its number, which is applied to another one in the body.
func local(n int) string {
	return fmt.Sprintf("(let f%d = (\\ x%d -> %d) in (f%d %d))", n, n, n, n, 100+n)
}

// call is what becomes of it, when it is lifted as the so manieth one.
func call(n, at int) string { return fmt.Sprintf("(~%d %d)", at, 100+n) }

// line is the Bind that its function becomes.
func line(n, at int) string { return fmt.Sprintf("~%d = (\\ x -> %d)", at, n) }

// inOrder holds Lift to the order in which it lifts the local lets of a text, where %1, %2, .. stand for them.
func inOrder(t *testing.T, text string) {
	t.Helper()
	n := strings.Count(text, "%")
	from, want, lines := text, text, []string{}
	for i := 1; i <= n; i++ {
		sign := fmt.Sprint("%", i)
		from, want = strings.ReplaceAll(from, sign, local(i)), strings.ReplaceAll(want, sign, call(i, i))
		lines = append(lines, line(i, i))
	}
	lifts(t, from, want, lines...)
	counts(t, from, n)
}

// P19.1: lets are lifted wherever they stand, of all other expressions in the order of Args, then Alts.
func TestPlaces(t *testing.T) {
	for _, text := range []string{
		"%1", "(\\ a -> %1)", "(\\ a b -> (\\ c -> %1))", "(%1 2)", "(%1 2 3)", "((%1 2) 3)", "((\\ a -> %1) 2)",
		"(case %1 of 1 -> 2)", "(case 1 of 1 -> %1)", "(case 1 of 1 -> %1; 2 -> %2; _ -> %3)", "(case %1 of Cons a b -> %2; Nil -> %3)", "(case %1 of '97' -> %2; u -> %3)", "(case (case %1 of 1 -> %2; 2 -> %3) of 1 -> %4; 2 -> (case %5 of _ -> %6))",
		"(let a = %1 in a)", "(let a = %1; b = %2 in %3)", "(let a = 1; b = (let c = %1 in %2) in (let d = %3; e = %4 in %5))", "(let a = (\\ b -> %1) in (g a))",
		"(#add (#mul %1 %2) (#sub %3 %4))", "(#seq (case %1 of _ -> %2) 1)", "(#ord (#chr %1))", "(\\ a -> (case (#add %1 a) of u -> (let w = (%2 1) in (\\ y -> %3))))",
	} {
		inOrder(t, text)
	}
	for _, name := range prim.Names() {
		var words []string
		for i := range core.Arity(name) {
			words = append(words, []string{"1", fmt.Sprint("%", i+1)}[min(1, max(0, prim.Strict(name)-i))])
		}
		inOrder(t, "(#"+name+" "+strings.Join(words, " ")+")")
	}
}

// P19.1: of a let those in its Binds come first, in order, then those in its body, then itself.
func TestInsideOut(t *testing.T) {
	lifts(t, "(let f = (\\ x -> "+local(1)+"); e = (\\ y -> "+local(2)+") in (#add (f 1) (#add "+local(3)+" (e 2))))", "(#add (~4 1) (#add "+call(3, 3)+" (~5 2)))", line(1, 1), line(2, 2), line(3, 3), "~4 = (\\ x -> "+call(1, 1)+")", "~5 = (\\ y -> "+call(2, 2)+")")
	lifts(t, "(let z = (\\ y -> "+local(2)+"); a = (\\ x -> "+local(1)+") in (#add (a 1) (z 2)))", "(#add (~4 1) (~3 2))", line(2, 1), line(1, 2), "~3 = (\\ y -> "+call(2, 1)+")", "~4 = (\\ x -> "+call(1, 2)+")")
	deep := "1"
	var lines []string
	for i := 9; i >= 1; i-- { // the innermost one is the first
		deep = fmt.Sprintf("(let f%d = (\\ x%d -> %s) in (f%d %d))", i, i, deep, i, i)
		body := "1"
		if i < 9 {
			body = fmt.Sprintf("(~%d %d)", 9-i, i+1)
		}
		lines = append(lines, fmt.Sprintf("~%d = (\\ x -> %s)", 10-i, body))
	}
	lifts(t, deep, "(~9 1)", lines...)
	counts(t, deep, 9)
}

// P19.1: the Binds are gone through by rising Name, as they are at first.
func TestBindsByName(t *testing.T) {
	p := testkit.Prog("~15 = "+local(7), "~~ = "+local(9), "~0 = "+local(6), "main = "+local(4), "Z = "+local(2), "a = "+local(3), "n = "+local(5), "0 = "+local(1), "~9 = "+local(8))
	want := testkit.Prog("~15 = "+call(7, 7), "~~ = "+call(9, 10), "~0 = "+call(6, 6), "main = "+call(4, 4), "Z = "+call(2, 2), "a = "+call(3, 3), "n = "+call(5, 5), "0 = "+call(1, 1), "~9 = "+call(8, 8),
		line(1, 1), line(2, 2), line(3, 3), line(4, 4), line(5, 5), line(6, 6), line(7, 7), line(8, 8), line(9, 10))
	q := lifted(t, p)
	if !core.SameProg(q, want) || lift.Count(p) != 9 {
		t.Errorf("Lift of %s:\n%s", brief(p), brief(q))
	}
	names := []string{"0", "Z", "a", "main", "n", "~0", "~1", "~10", "~15", "~2", "~3", "~4", "~5", "~6", "~7", "~8", "~9", "~~"}
	if got := namesOf(q); !slices.Equal(got, names) {
		t.Errorf("the Binds are %s", got)
	}
}

// P19.1: of new names the first is taken that is no Bind's name.
func TestNewNames(t *testing.T) {
	for _, x := range []struct {
		taken []string
		want  [3]int
	}{
		{nil, [3]int{1, 2, 3}},
		{[]string{"~1"}, [3]int{2, 3, 4}},
		{[]string{"~2"}, [3]int{1, 3, 4}},
		{[]string{"~3"}, [3]int{1, 2, 4}},
		{[]string{"~1", "~2", "~3"}, [3]int{4, 5, 6}},
		{[]string{"~2", "~4"}, [3]int{1, 3, 5}},
		{[]string{"~4", "~5"}, [3]int{1, 2, 3}},
		{[]string{"~0", "~01", "~", "~~1", "~1~", "~+1", "~-1", "~2x", "~1_0", "1", "~0x1", "~99999999999999999999", "~03", "~3.0"}, [3]int{1, 2, 3}},
	} {
		var lines []string
		for _, name := range x.taken {
			lines = append(lines, name+" = 1")
		}
		from := "(#add " + local(1) + " (#add " + local(2) + " " + local(3) + "))"
		want := "(#add " + call(1, x.want[0]) + " (#add " + call(2, x.want[1]) + " " + call(3, x.want[2]) + "))"
		p := with(program(from), lines...)
		w := with(with(program(want), lines...), line(1, x.want[0]), line(2, x.want[1]), line(3, x.want[2]))
		if q := lifted(t, p); !core.SameProg(q, w) {
			t.Errorf("Lift of %s:\n%s", brief(p), brief(q))
		}
	}
}

// P19.1: bound names that a new Bind has are others, and those that it has not.
func TestBoundNamesLikeNewOnes(t *testing.T) {
	for _, x := range [][]string{
		{"(\\ ~1 -> (let f = (\\ x -> (#add x ~1)) in (f ~1)))", "(\\ y -> (~1 y y))", "(\\ u x -> (#add x u))"},
		{"(\\ ~1 ~2 -> (let f = (\\ x -> (#sub ~2 ~1)) in (f ~2)))", "(\\ y z -> (~1 y z z))", "(\\ u v x -> (#sub v u))"},
		{"(let ~1 = (\\ x -> x) in (~1 1))", "(~1 1)", "(\\ x -> x)"},
		{"(let ~2 = (\\ x -> (~1 x)); ~1 = (\\ y -> (~2 y)) in (~1 1))", "(~2 1)", "(\\ x -> (~2 x))", "(\\ y -> (~1 y))"},
		{"(let f = (\\ ~1 -> ~1) in (f 1))", "(~1 1)", "(\\ x -> x)"},
		{"(let f = (\\ ~2 -> ~2); e = (\\ ~1 -> (f ~1)) in (e 1))", "(~2 1)", "(\\ x -> x)", "(\\ x -> (~1 x))"},
		{"(case 1 of Cons ~1 ~3 -> (let f = (\\ x -> (~3 ~1)) in (f ~1)); ~2 -> (let ~4 = ~2 in (~4 ~2)))", "(case 1 of Cons a b -> (~1 a b a); c -> (let d = c in (d c)))", "(\\ u v x -> (v u))"},
		{"(let ~1 = (g 1 2) in (let f = (\\ x -> ~1) in (f ~1)))", "(let a = (g 1 2) in (~1 a a))", "(\\ u x -> u)"},
		{"(\\ v1 v2 v3 -> (let f = (\\ v4 -> (v1 v2 v4)) in (f v3)))", "(\\ a b c -> (~1 a b c))", "(\\ u v x -> (u v x))"},
		{"(\\ ~1! ~1 -> (let f = (\\ x -> (~1! ~1)) in (f 1)))", "(\\ a b -> (~1 b a 1))", "(\\ u v x -> (v u))"},
		{"(\\ v1 -> (let f = (\\ x -> (#add v1 (let v2 = (g v1 x) in v2))) in (let v3 = (f v1) in (\\ v4 -> (f v3)))))", "(\\ a -> (let b = (~1 a a) in (\\ c -> (~1 a b))))", "(\\ u x -> (#add u (let w = (g u x) in w)))"},
	} {
		var lines []string
		for i, f := range x[2:] {
			lines = append(lines, fmt.Sprint("~", i+1, " = ", f))
		}
		lifts(t, x[0], x[1], lines...)
	}
	// The program's own names are as little new as bound ones.
	p := with(program("(\\ v1 -> (let f = (\\ x -> (v2 v1 v3)) in (f ~1)))"), "v2 = 1", "v3 = 2", "~1 = 3")
	if q := lifted(t, p); !core.SameProg(q, with(program("(\\ a -> (~2 a ~1))"), "v2 = 1", "v3 = 2", "~1 = 3", "~2 = (\\ u x -> (v2 u v3))")) {
		t.Errorf("Lift of %s:\n%s", brief(p), brief(q))
	}
}

// P19.1: free variables come by rising names, byte by byte.
func TestFreeByName(t *testing.T) {
	names := []string{"10", "9", "Z", "a", "a!", "a1", "a10", "a2", "aa", "b", "~~"}
	shuffled := []string{"aa", "~~", "10", "a!", "a2", "Z", "b", "a10", "9", "a1", "a"}
	p := testkit.Prog("main = (\\ x -> (let f = (\\ y -> (g)) in (f 1)))")
	call := func(head api.Expr, l []string) api.Expr {
		e := api.Expr{Kind: api.ExApp, Args: list(head)}
		for _, name := range l {
			e.Args = append(e.Args, variable(name))
		}
		return e
	}
	lambda := func(body api.Expr, l ...string) api.Expr {
		return api.Expr{Kind: api.ExLam, Params: l, Args: list(body)}
	}
	let := api.Expr{Kind: api.ExLet, Binds: []api.Bind{{Name: "f", E: lambda(call(variable("main"), shuffled), "y")}}, Args: list(call(variable("f"), shuffled[:1]))}
	p.Binds[0].E = lambda(let, shuffled...)
	want := p
	want.Binds = []api.Bind{{Name: "main", E: lambda(call(variable("~1"), append(slices.Clone(names), "aa")), shuffled...)}, {Name: "~1", E: lambda(call(variable("main"), shuffled), append(slices.Clone(names), "y")...)}}
	if q := lifted(t, p); !core.SameProg(q, want) {
		t.Errorf("Lift of %s:\n%s\nwant\n%s", brief(p), brief(q), brief(want))
	}
}
