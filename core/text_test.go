package core_test

import (
	"reflect"
	"strings"
	"testing"

	"thunkmill/api"
	"thunkmill/core"
	"thunkmill/testkit"
)

// P7.3: texts of expressions as they may be; each is read as what it tells.
func TestText(t *testing.T) {
	l := func(e ...api.Expr) []api.Expr { return e }
	x, y := variable("x"), variable("y")
	for want, e := range map[string]api.Expr{
		"x": x, "0": number(0), "-1": number(-1), "9223372036854775807": number(1<<63 - 1), "-9223372036854775808": number(-1 << 63), "'0'": {Kind: api.ExChar}, "'97'": {Kind: api.ExChar, Num: 97}, "'255'": {Kind: api.ExChar, Num: 255},
		"(Nil)": {Kind: api.ExCon, Name: "Nil"}, "(Cons x (Nil))": {Kind: api.ExCon, Name: "Cons", Args: l(x, api.Expr{Kind: api.ExCon, Name: "Nil"})}, "(\\ x -> x)": {Kind: api.ExLam, Params: []string{"x"}, Args: l(x)}, "(\\ x y -> y)": {Kind: api.ExLam, Params: []string{"x", "y"}, Args: l(y)},
		"(x y)": {Kind: api.ExApp, Args: l(x, y)}, "(x y 1)": {Kind: api.ExApp, Args: l(x, y, number(1))}, "((x y) 1)": {Kind: api.ExApp, Args: l(api.Expr{Kind: api.ExApp, Args: l(x, y)}, number(1))},
		"(let x = 1 in x)": {Kind: api.ExLet, Binds: []api.Bind{{Name: "x", E: number(1)}}, Args: l(x)}, "(let x = y; y = x in (x y))": {Kind: api.ExLet, Binds: []api.Bind{{Name: "x", E: y}, {Name: "y", E: x}}, Args: l(api.Expr{Kind: api.ExApp, Args: l(x, y)})},
		"(case x of _ -> 1)": {Kind: api.ExCase, Args: l(x), Alts: []api.Alt{{Kind: api.AltElse, E: number(1)}}}, "(case x of Cons x y -> y; Nil -> 1; z -> 2)": {Kind: api.ExCase, Args: l(x), Alts: []api.Alt{{Kind: api.AltCon, Name: "Cons", Vars: []string{"x", "y"}, E: y}, {Kind: api.AltCon, Name: "Nil", E: number(1)}, {Kind: api.AltElse, Vars: []string{"z"}, E: number(2)}}},
		"(case x of 1 -> y; -1 -> x)": {Kind: api.ExCase, Args: l(x), Alts: []api.Alt{{Kind: api.AltInt, Num: 1, E: y}, {Kind: api.AltInt, Num: -1, E: x}}}, "(case x of '1' -> y; '0' -> x)": {Kind: api.ExCase, Args: l(x), Alts: []api.Alt{{Kind: api.AltChar, Num: 1, E: y}, {Kind: api.AltChar, E: x}}},
		"(#getc)": {Kind: api.ExPrim, Name: "getc"}, "(#add x 1)": {Kind: api.ExPrim, Name: "add", Args: l(x, number(1))},
	} {
		if got := core.Text(e); got != want {
			t.Errorf("Text: %q instead of %q", got, want)
		}
		if got := read(want); !reflect.DeepEqual(got, e) && !core.Same(got, e) {
			t.Errorf("%q is read as %+v", want, got)
		}
	}
}

// P7.3: what may not be.
func TestTextOfWhatMayNotBe(t *testing.T) {
	one, two := many(1, number(1)), []api.Expr{number(1), number(2)}
	a := []api.Bind{{Name: "a", E: number(3)}}
	other := []api.Alt{{Kind: api.AltElse, E: number(3)}}
	for _, c := range []struct {
		e    api.Expr
		want string
	}{
		{api.Expr{}, ""}, {api.Expr{Kind: 10, Name: "x", Num: 1, Args: two, Binds: a, Alts: other, Params: []string{"x"}}, ""}, {api.Expr{Kind: -1, Args: one}, ""},
		{api.Expr{Kind: api.ExApp}, "()"}, {api.Expr{Kind: api.ExApp, Args: one}, "(1)"}, {api.Expr{Kind: api.ExApp, Args: []api.Expr{{}, number(1), {}}}, "( 1 )"},
		{api.Expr{Kind: api.ExLam, Params: []string{"x"}}, "(\\ x ->)"}, {api.Expr{Kind: api.ExLam, Params: []string{"x", "x"}, Args: two}, "(\\ x x -> 1 2)"}, {api.Expr{Kind: api.ExLam, Params: []string{"x"}, Args: []api.Expr{{}}}, "(\\ x -> )"},
		{api.Expr{Kind: api.ExLet, Binds: a}, "(let a = 3 in)"}, {api.Expr{Kind: api.ExLet, Binds: a, Args: two}, "(let a = 3 in 1 2)"}, {api.Expr{Kind: api.ExLet, Binds: []api.Bind{{}, {Name: "b"}}, Args: one}, "(let  = ; b =  in 1)"},
		{api.Expr{Kind: api.ExCase, Alts: other}, "(case of _ -> 3)"}, {api.Expr{Kind: api.ExCase, Args: two, Alts: other}, "(case 1 2 of _ -> 3)"}, {api.Expr{Kind: api.ExCase, Args: one, Alts: []api.Alt{{Kind: api.AltElse, Vars: []string{"a", "b", "c"}, E: number(3)}}}, "(case 1 of a b c -> 3)"},
		{api.Expr{Kind: api.ExCase, Args: one, Alts: []api.Alt{{Kind: api.AltInt, Name: "a", Num: 5, Vars: []string{"a"}, E: number(3)}, {Kind: api.AltChar, Num: -5, Name: "a", Vars: []string{"a"}}, {Kind: api.AltCon, Num: 5, Name: "a"}}}, "(case 1 of 5 -> 3; '-5' -> ; a -> )"}, {api.Expr{Kind: api.ExCase, Args: one, Alts: []api.Alt{{Kind: 5, Name: "a", Num: 5, Vars: []string{"a"}, E: number(3)}, {E: number(4)}}}, "(case 1 of  -> 3;  -> 4)"},
		// Without names, bindings, alternatives the blanks around where they would be are both there.
		{api.Expr{Kind: api.ExLam, Args: one}, "(\\  -> 1)"}, {api.Expr{Kind: api.ExLet, Args: one}, "(let  in 1)"}, {api.Expr{Kind: api.ExCase, Args: one}, "(case 1 of )"},
		{api.Expr{Kind: api.ExVar, Name: "x", Num: 1, Args: two, Params: []string{"y"}, Binds: a, Alts: other}, "x"}, {api.Expr{Kind: api.ExInt, Name: "x", Num: 1, Args: two, Params: []string{"y"}, Binds: a, Alts: other}, "1"}, {api.Expr{Kind: api.ExChar, Name: "x", Num: -300, Args: two, Params: []string{"y"}, Binds: a, Alts: other}, "'-300'"}, {api.Expr{Kind: api.ExCon, Name: "x", Num: 1, Args: two, Params: []string{"y"}, Binds: a, Alts: other}, "(x 1 2)"}, {api.Expr{Kind: api.ExPrim, Name: "x", Num: 1, Args: two, Params: []string{"y"}, Binds: a, Alts: other}, "(#x 1 2)"}, {api.Expr{Kind: api.ExApp, Name: "x", Num: 1, Args: two, Params: []string{"y"}, Binds: a, Alts: other}, "(1 2)"},
		{api.Expr{Kind: api.ExLam, Name: "x", Num: 1, Args: one, Params: []string{"y"}, Binds: a, Alts: other}, "(\\ y -> 1)"}, {api.Expr{Kind: api.ExLet, Name: "x", Num: 1, Args: one, Params: []string{"y"}, Binds: a, Alts: other}, "(let a = 3 in 1)"}, {api.Expr{Kind: api.ExCase, Name: "x", Num: 1, Args: one, Params: []string{"y"}, Binds: a, Alts: other}, "(case 1 of _ -> 3)"}, {variable(""), ""}, {variable("a b\n"), "a b\n"}, {api.Expr{Kind: api.ExCon}, "()"}, {api.Expr{Kind: api.ExPrim}, "(#)"},
	} {
		if got := core.Text(c.e); got != c.want {
			t.Errorf("Text of %+v: %q instead of %q", c.e, got, c.want)
		}
	}
}

// P7.3: a line for each constructor, then one for each binding.
func TestProgText(t *testing.T) {
	p := api.Prog{Cons: builtin(), Binds: prog("f = (\\ x -> x)", "main = (f 1)").Binds}
	want := "data Bool False 0\ndata Bool True 0\ndata List Nil 0\ndata List Cons 2\ndata Unit Unit 0\nf = (\\ x -> x)\nmain = (f 1)\n"
	if got := core.ProgText(p); got != want {
		t.Errorf("ProgText: %q", got)
	}
	if got := core.ProgText(api.Prog{}); got != "" {
		t.Errorf("ProgText of nothing: %q", got)
	}
	odd := api.Prog{Cons: []api.Con{con("Q", -3, "z", 9), {}}, Binds: []api.Bind{{Name: "z", E: number(1)}, {Name: "a"}}}
	if got := core.ProgText(odd); got != "data z Q -3\ndata   0\nz = 1\na = \n" {
		t.Errorf("ProgText of what may not be: %q", got)
	}
}

// P7.3: what is told is read as it was, and has no needless blank.
func TestTextByChance(t *testing.T) {
	make := byChance(3)
	for range 4000 {
		e := make.Expr(1 + make.Chance.Intn(5))
		text := core.Text(e)
		if got := testkit.Core(text); !reflect.DeepEqual(withoutEmpty(got), withoutEmpty(e)) {
			t.Fatalf("%s is read as %s", text, core.Text(got))
		}
		if strings.Contains(text, "  ") || strings.Contains(text, "( ") || strings.Contains(text, " )") || strings.Contains(text, " ;") || strings.TrimSpace(text) != text {
			t.Fatalf("a needless blank: %q", text)
		}
	}
}

// withoutEmpty is an expression whose empty lists are nil.
func withoutEmpty(e api.Expr) api.Expr {
	e = core.Copy(e)
	e.Params, e.Binds, e.Args, e.Alts = append([]string(nil), e.Params...), append([]api.Bind(nil), e.Binds...), append([]api.Expr(nil), e.Args...), append([]api.Alt(nil), e.Alts...)
	for i := range e.Binds {
		e.Binds[i].E = withoutEmpty(e.Binds[i].E)
	}
	for i := range e.Args {
		e.Args[i] = withoutEmpty(e.Args[i])
	}
	for i := range e.Alts {
		e.Alts[i].Vars = append([]string(nil), e.Alts[i].Vars...)
		e.Alts[i].E = withoutEmpty(e.Alts[i].E)
	}
	return e
}
