package core_test

import (
	"slices"
	"strings"
	"testing"

	"thunkmill/api"
	"thunkmill/core"
	"thunkmill/testkit"
)

func checkIs(t *testing.T, what string, p api.Prog, want api.Errno) {
	t.Helper()
	if got := core.Check(p); got != want {
		t.Errorf("Check, %s: %v instead of %v", what, got, want)
	}
}

// exprIs holds an expression to what Check tells of it as main, and CheckExpr of it alone.
func exprIs(t *testing.T, what string, e api.Expr, want api.Errno) {
	t.Helper()
	checkIs(t, what, mainIs(e), want)
	if got := core.CheckExpr(api.Prog{Cons: cons()}, e, []string{"main"}); got != want {
		t.Errorf("CheckExpr, %s: %v instead of %v", what, got, want)
	}
}

// P7.1: expressions of each kind, alternatives of each kind, scopes.
func TestExpressionsThatMayBe(t *testing.T) {
	for _, text := range []string{
		"main", "0", "-1", "9223372036854775807", "-9223372036854775808", "'0'", "'255'", "(Nil)", "(Unit)", "(Cons 1 (Nil))", "(C main '97' 1)",
		"(\\ x -> x)", "(\\ x y -> (x y))", "(\\ x -> (\\ x -> x))", "(main 1)", "(main 1 2 3)", "((\\ x -> x) 1)", "(1 2)",
		"(let a = 1 in a)", "(let a = b; b = a in (a b))", "(let a = a in 1)", "(let a = (\\ a -> a); b = a in b)", "(let b = 1; a = 2 in 3)", "(let main = 1 in main)",
		"(case 1 of _ -> 2)", "(case 1 of x -> x)", "(case 1 of 1 -> 2)", "(case 1 of 1 -> 2; -1 -> 3; 0 -> 4; _ -> 5)", "(case '1' of '1' -> 2; '0' -> 3; '255' -> 1; x -> x)",
		"(case (Nil) of Nil -> 1)", "(case (Nil) of Cons x y -> (x y); Nil -> 1)", "(case (Nil) of Nil -> 1; x -> x)", "(case 1 of C a b c -> (a b c); B -> 1; Zed x -> x; _ -> 2)",
		"(\\ x -> (case x of Cons x y -> (case y of Cons x y -> x; y -> (x y)); x -> x))", "(case (case 1 of x -> x) of x -> (case x of x -> x))",
		"(#add 1 2)", "(#add main (#getc))", "(#error (Nil))", "(let x = 1; y = (\\ y -> (x y)) in (case (x y) of V x -> (x y); _ -> (y x)))",
	} {
		exprIs(t, text, read(text), api.OK)
	}
}

func TestProgramsThatMayBe(t *testing.T) {
	for _, p := range []api.Prog{
		{Cons: builtin(), Binds: []api.Bind{{Name: "main", E: number(1)}}},
		prog("main = 1"), prog("f = (\\ x -> (g x))", "g = (\\ x -> (f main))", "main = (f g)"), prog("a = a", "b = b", "main = (a b)", "z = main"),
		prog("Main = 1", "_ = main", "main = (_ Main)"), prog("main = main", "main' = main"),
	} {
		checkIs(t, core.ProgText(p), p, api.OK)
	}
}

// P7.1: the examples of the chapter.
func TestExamplesOfCheck(t *testing.T) {
	exprIs(t, "Cons with one part", read("(Cons 1)"), api.ErrShape)
	exprIs(t, "add with three", read("(#add 1 2 3)"), api.ErrShape)
	exprIs(t, "two alternatives of 1", read("(case 1 of 1 -> 2; 1 -> 3)"), api.ErrArg)
	checkIs(t, "without main", prog("a = 1"), api.ErrMain)
	checkIs(t, "without bindings", prog(), api.ErrMain)
}

// atNames puts a name at each place where an expression has one.
func atNames(name string) map[string]api.Expr {
	one := []api.Expr{number(1)}
	alt := func(a api.Alt) api.Expr {
		a.E = number(1)
		return api.Expr{Kind: api.ExCase, Args: one, Alts: []api.Alt{a}}
	}
	return map[string]api.Expr{
		"a parameter":                  {Kind: api.ExLam, Params: []string{"a", name}, Args: one},
		"a binding":                    {Kind: api.ExLet, Binds: []api.Bind{{Name: name, E: number(1)}}, Args: one},
		"a variable":                   {Kind: api.ExLam, Params: []string{"a"}, Args: []api.Expr{variable(name)}},
		"a part's name":                alt(api.Alt{Kind: api.AltCon, Name: "Cons", Vars: []string{"a", name}}),
		"an AltElse's name":            alt(api.Alt{Kind: api.AltElse, Vars: []string{name}}),
		"a constructor":                {Kind: api.ExCon, Name: name},
		"an alternative's constructor": alt(api.Alt{Kind: api.AltCon, Name: name}),
		"a primitive":                  {Kind: api.ExPrim, Name: name},
	}
}

// P7.1: names of 1 byte, of MaxSource bytes, of none and of more, and of bytes that may not be.
func TestNamesInExpressions(t *testing.T) {
	good := []string{"a", "!", "~", "(", "'", "\\", "1", "_", strings.Repeat("n", api.MaxSource), "a!~", "let"}
	bad := []string{"", strings.Repeat("n", api.MaxSource+1), " ", "\x7f", "a b", "a\n", "\x00", "\x1f", "\x80", "é", "a\xff", "a ", " a", "\x7fa"}
	unknown := map[string]api.Errno{"a variable": api.ErrScope, "a constructor": api.ErrShape, "an alternative's constructor": api.ErrShape, "a primitive": api.ErrShape}
	for _, name := range good {
		for what, e := range atNames(name) {
			want := unknown[what]
			if what == "a variable" && name == "a" {
				want = api.OK
			}
			if what == "a parameter" && name == "a" || what == "a part's name" && name == "a" {
				want = api.ErrArg
			}
			exprIs(t, what+" "+start(name), e, want)
		}
	}
	for _, name := range bad {
		for what, e := range atNames(name) {
			exprIs(t, what+" "+start(name), e, api.ErrArg)
			// A name that may not be is none, even if something of that name is there.
			p := api.Prog{Cons: append(cons(), api.Con{Name: name}), Binds: []api.Bind{{Name: name}}}
			if got := core.CheckExpr(p, e, []string{name}); got != api.ErrArg {
				t.Errorf("CheckExpr where it is there, %s %q: %v", what, start(name), got)
			}
		}
	}
}

func start(name string) string { return name[:min(len(name), 9)] }

func TestNamesInPrograms(t *testing.T) {
	for name, want := range map[string]api.Errno{
		"a": api.OK, "!": api.OK, "~": api.OK, strings.Repeat("l", api.MaxSource): api.OK,
		"": api.ErrArg, strings.Repeat("l", api.MaxSource+1): api.ErrArg, "a b": api.ErrArg, " ": api.ErrArg, "\x7f": api.ErrArg, "\x80": api.ErrArg,
	} {
		p := prog("main = 1")
		p.Binds = append(p.Binds, api.Bind{Name: name, E: number(1)})
		slices.SortFunc(p.Binds, func(a, b api.Bind) int { return strings.Compare(a.Name, b.Name) })
		checkIs(t, "a binding "+start(name), p, want)
		p = prog("main = 1")
		p.Cons = append(p.Cons, api.Con{Name: name, Type: "zz"})
		checkIs(t, "a constructor "+start(name), p, want)
	}
	// A type's name of no byte comes ahead of all others, one of MaxSource bytes is the longest.
	for name, want := range map[string]api.Errno{"": api.ErrArg, "!": api.OK, " ": api.ErrArg, "\x1f": api.ErrArg} {
		p := prog("main = 1")
		p.Cons = slices.Insert(p.Cons, 0, api.Con{Name: "Q", Type: name})
		checkIs(t, "a type "+name, p, want)
	}
	for name, want := range map[string]api.Errno{strings.Repeat("z", api.MaxSource): api.OK, strings.Repeat("z", api.MaxSource+1): api.ErrArg, "~": api.OK, "\x7f": api.ErrArg, "z z": api.ErrArg} {
		p := prog("main = 1")
		p.Cons = append(p.Cons, api.Con{Name: "Q", Type: name})
		checkIs(t, "a type "+start(name), p, want)
	}
}

// P7.1: characters from 0 to 255, in expressions and in alternatives.
func TestCharacters(t *testing.T) {
	for n, want := range map[int64]api.Errno{0: api.OK, 1: api.OK, 255: api.OK, -1: api.ErrArg, 256: api.ErrArg, 1 << 62: api.ErrArg, -1 << 63: api.ErrArg} {
		exprIs(t, "a character", api.Expr{Kind: api.ExChar, Num: n}, want)
		exprIs(t, "an alternative of a character", api.Expr{Kind: api.ExCase, Args: many(1, number(1)), Alts: []api.Alt{{Kind: api.AltChar, Num: n, E: number(1)}}}, want)
		exprIs(t, "a number", number(n), api.OK)
		exprIs(t, "an alternative of a number", api.Expr{Kind: api.ExCase, Args: many(1, number(1)), Alts: []api.Alt{{Kind: api.AltInt, Num: n, E: number(1)}}}, api.OK)
	}
}

// P7.1: how many names, parts, arguments there may be.
func TestHowMany(t *testing.T) {
	one := many(1, number(1))
	lam := func(n int) api.Expr { return api.Expr{Kind: api.ExLam, Params: named(n), Args: one} }
	app := func(n int) api.Expr { return api.Expr{Kind: api.ExApp, Args: many(n, number(1))} }
	for n, want := range map[int]api.Errno{0: api.ErrArg, 1: api.OK, 2: api.OK, 31: api.OK, 32: api.OK, 33: api.ErrArg, 1000: api.ErrArg} {
		exprIs(t, "a lambda", lam(n), want)
		exprIs(t, "an application", app(n+1), want)
	}
	exprIs(t, "an application of nothing", app(0), api.ErrArg)
	for n := range 4 {
		want := api.ErrArg
		if n == 1 {
			want = api.OK
		}
		exprIs(t, "a lambda's body", api.Expr{Kind: api.ExLam, Params: []string{"a"}, Args: many(n, number(1))}, want)
		exprIs(t, "a let's body", api.Expr{Kind: api.ExLet, Binds: []api.Bind{{Name: "a", E: number(1)}}, Args: many(n, number(1))}, want)
		exprIs(t, "a case's expression", api.Expr{Kind: api.ExCase, Alts: []api.Alt{{Kind: api.AltElse, E: number(1)}}, Args: many(n, number(1))}, want)
	}
	exprIs(t, "a let without bindings", api.Expr{Kind: api.ExLet, Args: one}, api.ErrArg)
	exprIs(t, "a case without alternatives", api.Expr{Kind: api.ExCase, Args: one}, api.ErrArg)
	exprIs(t, "a let of many", testkit.ManyBinds(100), api.OK)
	exprIs(t, "a case of many", testkit.ManyAlts(100), api.OK)
}

// P7.1: a constructor with 32 parts may be, one with 33 may not, and none below 0.
func TestAritiesOfConstructors(t *testing.T) {
	for n, want := range map[int]api.Errno{0: api.OK, 32: api.OK, 33: api.ErrArg, -1: api.ErrArg, 1 << 40: api.ErrArg} {
		p := prog("main = 1")
		p.Cons = append(p.Cons, api.Con{Name: "W", Arity: n, Type: "w"})
		checkIs(t, "a constructor", p, want)
		if n < 0 || n > 33 {
			continue
		}
		for k := max(n-1, 0); k <= n+1; k++ {
			wide := api.Expr{Kind: api.ExCon, Name: "W", Args: many(k, number(1))}
			alt := api.Expr{Kind: api.ExCase, Args: many(1, number(1)), Alts: []api.Alt{{Kind: api.AltCon, Name: "W", Vars: named(k), E: number(1)}}}
			wants := want
			if k != n && want == api.OK {
				wants = api.ErrShape
			}
			for _, e := range []api.Expr{wide, alt} {
				p.Binds[0].E = e
				checkIs(t, "with parts", p, wants)
				// CheckExpr takes constructors as they are.
				wantsExpr := api.OK
				if k != n {
					wantsExpr = api.ErrShape
				}
				if got := core.CheckExpr(p, e, nil); got != wantsExpr {
					t.Errorf("CheckExpr of %d parts of %d: %v", k, n, got)
				}
			}
		}
	}
}

// P7.1: no name stands twice among Params, Binds, Vars.
func TestNamesTwice(t *testing.T) {
	for _, text := range []string{
		"(\\ x x -> 1)", "(\\ x y x -> 1)", "(\\ a x y z x -> x)", "(let a = 1; a = 1 in 1)", "(let a = 1; b = 2; a = 3 in a)", "(case 1 of Cons x x -> 1)", "(case 1 of C x y x -> 1)", "(case 1 of C y x x -> 1)",
		"(main (\\ x x -> 1))", "(let a = (\\ x x -> 1) in 1)", "(case (\\ x x -> 1) of _ -> 1)", "(case 1 of _ -> (\\ x x -> 1))", "(case 1 of Nil -> 1; x -> (\\ x x -> 1))", "(Cons 1 (\\ x x -> 1))", "(#add 1 (\\ x x -> 1))",
	} {
		exprIs(t, text, read(text), api.ErrArg)
	}
}

// P7.1: alternatives that may not be together.
func TestAlternativesTogether(t *testing.T) {
	for _, text := range []string{
		"(case 1 of _ -> 1; _ -> 2)", "(case 1 of _ -> 1; 1 -> 2)", "(case 1 of x -> 1; y -> 2)", "(case 1 of 1 -> 1; _ -> 2; 2 -> 3)", "(case 1 of Nil -> 1; _ -> 2; Cons x y -> 3)", "(case 1 of 1 -> 1; _ -> 2; _ -> 3)", "(case 1 of _ -> 1; Nil -> 2; _ -> 3)",
		"(case 1 of 1 -> 1; '1' -> 2)", "(case 1 of '1' -> 1; 1 -> 2)", "(case 1 of Nil -> 1; 1 -> 2)", "(case 1 of 1 -> 1; Nil -> 2; _ -> 3)", "(case 1 of 0 -> 1; 1 -> 2; '2' -> 3)", "(case 1 of Nil -> 1; '0' -> 2)",
		"(case 1 of Nil -> 1; True -> 2)", "(case 1 of Unit -> 1; Nil -> 2; Cons a b -> 3)", "(case 1 of True -> 1; False -> 2; Unit -> 3; _ -> 4)", "(case 1 of True -> 1; K x y -> 2)", "(case 1 of True -> 1; Unit -> 2; False -> 3)",
		"(case 1 of 1 -> 1; 1 -> 1)", "(case 1 of 1 -> 1; 2 -> 2; 1 -> 3)", "(case 1 of '1' -> 1; '1' -> 2)", "(case 1 of Nil -> 1; Nil -> 1)", "(case 1 of Nil -> 1; Cons a b -> 2; Nil -> 3; _ -> 4)", "(case 1 of Cons a b -> 1; Cons c d -> 2)",
	} {
		exprIs(t, text, read(text), api.ErrArg)
	}
	twoNames := read("(case 1 of x -> 1)")
	twoNames.Alts[0].Vars = []string{"x", "y"}
	exprIs(t, "an AltElse with two names", twoNames, api.ErrArg)
}

// P7.1: constructors of which none is there are of no type, and may be there twice no more than others.
func TestAlternativesOfConstructorsThatAreNot(t *testing.T) {
	for text, want := range map[string]api.Errno{
		"(case 1 of No -> 1)": api.ErrShape, "(case 1 of No -> 1; Nil -> 2)": api.ErrShape, "(case 1 of Nil -> 1; No x -> 2; Cons a b -> 3; _ -> 4)": api.ErrShape, "(case 1 of No -> 1; Neither -> 2)": api.ErrShape,
		"(case 1 of No -> 1; No -> 2)": api.ErrArg, "(case 1 of Nil -> 1; No -> 2; True -> 3)": api.ErrArg, "(case 1 of No -> 1; 1 -> 2)": api.ErrArg, "(case 1 of No x x -> 1)": api.ErrArg,
	} {
		exprIs(t, text, read(text), want)
	}
}

// P7.1: fields that a kind does not have are zero; lists that are empty are.
func TestFieldsThatAreNotOfAKind(t *testing.T) {
	texts := map[int]string{api.ExVar: "main", api.ExInt: "1", api.ExChar: "'1'", api.ExCon: "(Nil)", api.ExLam: "(\\ a -> 1)", api.ExApp: "(1 2)", api.ExLet: "(let a = 1 in 1)", api.ExCase: "(case 1 of _ -> 1)", api.ExPrim: "(#getc)"}
	fields := map[string]func(e *api.Expr){
		"Name":   func(e *api.Expr) { e.Name = "main" },
		"Num":    func(e *api.Expr) { e.Num = 1 },
		"Params": func(e *api.Expr) { e.Params = []string{"a"} },
		"Binds":  func(e *api.Expr) { e.Binds = []api.Bind{{Name: "a", E: number(1)}} },
		"Args":   func(e *api.Expr) { e.Args = many(1, number(1)) },
		"Alts":   func(e *api.Expr) { e.Alts = []api.Alt{{Kind: api.AltElse, E: number(1)}} },
	}
	own := map[int]string{api.ExVar: "Name", api.ExInt: "Num", api.ExChar: "Num", api.ExCon: "Name Args", api.ExLam: "Params Args", api.ExApp: "Args", api.ExLet: "Binds Args", api.ExCase: "Args Alts", api.ExPrim: "Name Args"}
	for kind, text := range texts {
		for field, fill := range fields {
			if slices.Contains(strings.Fields(own[kind]), field) {
				continue
			}
			e := read(text)
			fill(&e)
			exprIs(t, text+" with "+field, e, api.ErrArg)
		}
		e := read(text)
		e.Params, e.Binds, e.Args, e.Alts = append([]string{}, e.Params...), append([]api.Bind{}, e.Binds...), append([]api.Expr{}, e.Args...), append([]api.Alt{}, e.Alts...)
		exprIs(t, text+" with empty lists", e, api.OK)
	}
	negative := read("main")
	negative.Num = -1
	exprIs(t, "a variable with a number below 0", negative, api.ErrArg)
}

func TestFieldsThatAreNotOfAnAlternative(t *testing.T) {
	of := func(a api.Alt) api.Expr {
		a.E = number(1)
		return api.Expr{Kind: api.ExCase, Args: many(1, number(1)), Alts: []api.Alt{a}}
	}
	for _, a := range []api.Alt{
		{Kind: api.AltCon, Name: "Nil", Num: 1}, {Kind: api.AltCon, Name: "Nil", Num: -1}, {Kind: api.AltInt, Name: "a"}, {Kind: api.AltInt, Vars: []string{"a"}}, {Kind: api.AltChar, Name: "Nil"}, {Kind: api.AltChar, Vars: []string{"a"}},
		{Kind: api.AltElse, Name: "a"}, {Kind: api.AltElse, Num: 1}, {Kind: api.AltElse, Num: -1, Vars: []string{"a"}}, {Kind: api.AltElse, Vars: []string{"a", "b"}}, {Kind: api.AltElse, Vars: []string{"a", "a"}},
	} {
		exprIs(t, "an alternative", of(a), api.ErrArg)
	}
	for _, a := range []api.Alt{{Kind: api.AltCon, Name: "Nil", Vars: []string{}}, {Kind: api.AltInt, Vars: []string{}}, {Kind: api.AltChar, Vars: []string{}}, {Kind: api.AltElse, Vars: []string{}}, {Kind: api.AltElse, Vars: []string{"a"}}} {
		exprIs(t, "an alternative", of(a), api.OK)
	}
}

// P7.1: kinds that are none, at the top and within.
func TestKindsThatAreNone(t *testing.T) {
	for _, kind := range []int{0, -1, 10, 11, 100, -1 << 63, 1<<63 - 1, api.ExVar + 256, api.ExInt + 1<<32} {
		none := api.Expr{Kind: kind}
		exprIs(t, "a kind that is none", none, api.ErrArg)
		none.Name, none.Num, none.Args = "main", 1, many(1, number(1))
		exprIs(t, "a kind that is none", none, api.ErrArg)
		exprIs(t, "within", api.Expr{Kind: api.ExApp, Args: []api.Expr{number(1), none}}, api.ErrArg)
	}
	for _, kind := range []int{0, -1, 5, 100, -1 << 63, api.AltCon + 256, api.AltElse + 1<<32} {
		e := read("(case 1 of 1 -> 1; _ -> 2)")
		e.Alts[0].Kind = kind
		exprIs(t, "an alternative of a kind that is none", e, api.ErrArg)
		e = read("(case 1 of _ -> 2)")
		e.Alts[0].Kind = kind
		exprIs(t, "an alternative of a kind that is none", e, api.ErrArg)
	}
}

// P7.1: constructors and primitives with as many parts as they have.
func TestShapes(t *testing.T) {
	for _, text := range []string{
		"(Cons)", "(Cons 1)", "(Cons 1 2 3)", "(Nil 1)", "(No)", "(No 1)", "(Non)", "(case 1 of Cons x -> 1)", "(case 1 of Cons -> 1)", "(case 1 of Cons x y z -> 1)", "(case 1 of Nil x -> 1)", "(case 1 of Nil -> 1; Cons x -> 2)", "(case 1 of No -> 1)",
		"(#no)", "(#no 1 2)", "(#Cons 1 2)", "(#add1 1 2)", "(#ad 1 2)", "(#ADD 1 2)", "(Add 1 2)", "(\\ x -> (Nil 1))", "(main (Nil 1))", "(let a = (Nil 1) in 1)", "(let a = 1 in (Nil 1))", "(case (Nil 1) of _ -> 1)", "(case 1 of _ -> (Nil 1))", "(Cons 1 (Nil 1))", "(#add 1 (Nil 1))", "(case 1 of 1 -> (#getc 1); _ -> 2)",
	} {
		exprIs(t, text, read(text), api.ErrShape)
	}
	for _, p := range prims() {
		for n := range 5 {
			want := api.ErrShape
			if n == p.Arity {
				want = api.OK
			}
			exprIs(t, p.Name, api.Expr{Kind: api.ExPrim, Name: p.Name, Args: many(n, number(1))}, want)
		}
	}
	for _, c := range builtin() {
		for n := range 4 {
			want := api.ErrShape
			if n == c.Arity {
				want = api.OK
			}
			exprIs(t, c.Name, api.Expr{Kind: api.ExCon, Name: c.Name, Args: many(n, number(1))}, want)
			exprIs(t, c.Name, api.Expr{Kind: api.ExCase, Args: many(1, number(1)), Alts: []api.Alt{{Kind: api.AltCon, Name: c.Name, Vars: named(n), E: number(1)}}}, want)
		}
	}
}

// P7.1: each variable is in a scope.
func TestScopes(t *testing.T) {
	for _, text := range []string{
		"x", "(x 1)", "(1 x)", "(Cons 1 x)", "(#add x 1)", "(\\ y -> x)", "((\\ x -> x) x)", "(x (\\ x -> x))", "(let y = x in 1)", "(let y = 1 in x)", "((let x = 1 in 1) x)", "(let y = (\\ x -> 1) in x)", "(let y = (let x = 1 in x) in x)",
		"(case x of x -> 1)", "(case 1 of 1 -> x; x -> 1)", "(case 1 of Cons x y -> 1; Nil -> x)", "(case 1 of Cons x y -> z)", "((case 1 of x -> 1) x)", "(case (\\ x -> 1) of _ -> x)", "(case 1 of Nil -> 1; _ -> x)", "Main", "main'", "add", "nil",
	} {
		exprIs(t, text, read(text), api.ErrScope)
	}
	checkIs(t, "of two bindings", prog("a = (\\ x -> x)", "main = x"), api.ErrScope)
	checkIs(t, "in a binding ahead", prog("a = x", "main = (\\ x -> x)"), api.ErrScope)
	checkIs(t, "in one behind", prog("main = (let x = 1 in x)", "z = x"), api.ErrScope)
}

// P7.1: constructors that may not be.
func TestConsThatMayNotBe(t *testing.T) {
	change := map[string]func(l []api.Con) []api.Con{
		"none":                            func(l []api.Con) []api.Con { return nil },
		"two of a type swapped":           func(l []api.Con) []api.Con { l[0], l[1] = l[1], l[0]; return l },
		"two types swapped":               func(l []api.Con) []api.Con { return slices.Concat(l[:3], l[5:6], l[3:5], l[6:]) },
		"types that do not rise":          func(l []api.Con) []api.Con { return slices.Concat(l[3:], l[:3]) },
		"a type in two parts":             func(l []api.Con) []api.Con { return append(l, api.Con{Name: "D", Type: "A", Tag: 3}) },
		"a Tag left out":                  func(l []api.Con) []api.Con { return slices.Delete(l, 1, 2) },
		"the first Tag left out":          func(l []api.Con) []api.Con { return slices.Delete(l, 0, 1) },
		"the first Tag is 1":              func(l []api.Con) []api.Con { return append(l, api.Con{Name: "W", Type: "w", Tag: 1}) },
		"a Tag below 0":                   func(l []api.Con) []api.Con { return append(l, api.Con{Name: "W", Type: "w", Tag: -1}) },
		"a Tag twice":                     func(l []api.Con) []api.Con { l[1].Tag = 0; return l },
		"a Tag too great":                 func(l []api.Con) []api.Con { l[2].Tag = 3; return l },
		"one twice":                       func(l []api.Con) []api.Con { return slices.Insert(l, 1, l[0]) },
		"a Name twice in a type":          func(l []api.Con) []api.Con { l[1].Name = "Zed"; return l },
		"a Name twice in two types":       func(l []api.Con) []api.Con { l[5].Name = "Zed"; return l },
		"a built-in Name twice":           func(l []api.Con) []api.Con { l[5].Name = "Nil"; return l },
		"a built-in one of another Name":  func(l []api.Con) []api.Con { l[4].Name = "Truth"; return l },
		"a built-in one of another Arity": func(l []api.Con) []api.Con { l[7].Arity = 3; return l },
		"built-in ones swapped":           func(l []api.Con) []api.Con { l[3].Name, l[4].Name = l[4].Name, l[3].Name; return l },
		"a third truth":                   func(l []api.Con) []api.Con { return slices.Insert(l, 5, api.Con{Name: "Maybe", Type: "Bool", Tag: 2}) },
		"a third list": func(l []api.Con) []api.Con {
			return slices.Insert(l, 8, api.Con{Name: "Snoc", Arity: 2, Type: "List", Tag: 2})
		},
		"a second Unit":          func(l []api.Con) []api.Con { return slices.Insert(l, 9, api.Con{Name: "Two", Type: "Unit", Tag: 1}) },
		"without False and True": func(l []api.Con) []api.Con { return slices.Delete(l, 3, 5) },
		"without True":           func(l []api.Con) []api.Con { return slices.Delete(l, 4, 5) },
		"without Nil and Cons":   func(l []api.Con) []api.Con { return slices.Delete(l, 6, 8) },
		"without Cons":           func(l []api.Con) []api.Con { return slices.Delete(l, 7, 8) },
		"without Unit":           func(l []api.Con) []api.Con { return slices.Delete(l, 8, 9) },
		"Unit of another Type":   func(l []api.Con) []api.Con { l[8].Type = "Units"; return l },
		"a type without a name":  func(l []api.Con) []api.Con { l[9].Type = ""; return l },
		"one without a Name":     func(l []api.Con) []api.Con { l[9].Name = ""; return l },
	}
	for what, f := range change {
		p := prog("main = 1")
		p.Cons = f(p.Cons)
		checkIs(t, what, p, api.ErrArg)
	}
	checkIs(t, "the built-in ones alone", api.Prog{Cons: builtin(), Binds: prog("main = 1").Binds}, api.OK)
	checkIs(t, "as they are", prog("main = 1"), api.OK)
	more := prog("main = 1")
	more.Cons = append(more.Cons, api.Con{Name: "U", Type: "a", Tag: 1}, api.Con{Name: "a", Type: "aa", Arity: 32}, api.Con{Name: "main", Type: "main"})
	checkIs(t, "and others", more, api.OK)
}

// P7.1: a program's bindings rise by name, in the order of bytes.
func TestBindsThatMayNotBe(t *testing.T) {
	for _, names := range []string{"main a", "b a main", "main main", "a main main", "main z y", "a b a main", "a a main"} {
		p := api.Prog{Cons: cons()}
		for _, name := range strings.Fields(names) {
			p.Binds = append(p.Binds, api.Bind{Name: name, E: number(1)})
		}
		checkIs(t, names, p, api.ErrArg)
	}
	for _, names := range []string{"main", "a main", "B a main z", "Z a main main'", "! main ~", "a ab b main"} {
		p := api.Prog{Cons: cons()}
		for _, name := range strings.Fields(names) {
			p.Binds = append(p.Binds, api.Bind{Name: name, E: number(1)})
		}
		checkIs(t, names, p, api.OK)
	}
	for _, names := range []string{"a", "Main", "main'", "mai", "a b", "_main"} {
		p := api.Prog{Cons: cons()}
		for _, name := range strings.Fields(names) {
			p.Binds = append(p.Binds, api.Bind{Name: name, E: number(1)})
		}
		checkIs(t, names, p, api.ErrMain)
	}
}

// P7.1: of two things that are wrong the one that is named first is told, wherever they stand.
func TestOrderOfErrors(t *testing.T) {
	wrong := []struct {
		told api.Errno
		make []func() api.Prog
	}{
		{api.ErrLong, []func() api.Prog{func() api.Prog { return mainIs(testkit.Nested(api.MaxNest+1, number(1))) }, func() api.Prog { return mainIs(testkit.ManyAlts(api.MaxNodes + 1)) }}},
		{api.ErrArg, []func() api.Prog{
			func() api.Prog { return mainIs(read("(\\ x x -> 1)")) }, func() api.Prog { return mainIs(api.Expr{}) }, func() api.Prog { return prog("main = 1", "main = 1") },
			func() api.Prog { p := prog("main = 1"); p.Cons = p.Cons[1:]; return p }, func() api.Prog { return mainIs(read("(case 1 of Nil -> 1; True -> 2)")) },
		}},
		{api.ErrShape, []func() api.Prog{func() api.Prog { return mainIs(read("(Cons 1)")) }, func() api.Prog { return mainIs(read("(#no)")) }, func() api.Prog { return mainIs(read("(case 1 of No -> 1)")) }}},
		{api.ErrScope, []func() api.Prog{func() api.Prog { return mainIs(read("nowhere")) }, func() api.Prog { return mainIs(read("(\\ x -> nowhere)")) }}},
	}
	for i, a := range wrong {
		for _, b := range wrong[i:] {
			for _, first := range a.make {
				for _, second := range b.make {
					checkBoth(t, first(), second(), a.told)
					checkBoth(t, second(), first(), a.told)
				}
			}
		}
		for _, p := range a.make {
			// Without main the last error applies too.
			q := p()
			for i := range q.Binds {
				q.Binds[i].Name = "a" + q.Binds[i].Name
			}
			checkIs(t, "without main", q, a.told)
		}
	}
}

// checkBoth holds a program that has what is wrong in both to the error that is named first, as two bindings and in one expression.
func checkBoth(t *testing.T, a, b api.Prog, want api.Errno) {
	t.Helper()
	p := api.Prog{Cons: a.Cons}
	if len(b.Cons) < len(p.Cons) {
		p.Cons = b.Cons
	}
	for i, bind := range slices.Concat(a.Binds, b.Binds) {
		if len(a.Binds) == 1 && len(b.Binds) == 1 {
			bind.Name = []string{"a", "main"}[i]
		}
		p.Binds = append(p.Binds, bind)
	}
	checkIs(t, "in two bindings", p, want)
	if len(a.Binds) != 1 || len(b.Binds) != 1 || len(p.Cons) != len(cons()) {
		return
	}
	l := []api.Expr{a.Binds[0].E, b.Binds[0].E}
	for what, e := range map[string]api.Expr{
		"two parts":               {Kind: api.ExApp, Args: l},
		"a binding and a body":    {Kind: api.ExLet, Binds: []api.Bind{{Name: "here", E: l[0]}}, Args: l[1:]},
		"a case and a choice":     {Kind: api.ExCase, Args: l[:1], Alts: []api.Alt{{Kind: api.AltElse, E: l[1]}}},
		"two choices":             {Kind: api.ExCase, Args: many(1, number(1)), Alts: []api.Alt{{Kind: api.AltInt, E: l[0]}, {Kind: api.AltElse, E: l[1]}}},
		"two bindings of one let": {Kind: api.ExLet, Binds: []api.Bind{{Name: "here", E: l[0]}, {Name: "there", E: l[1]}}, Args: many(1, number(1))},
	} {
		exprIs(t, what, e, want)
	}
}

// P7.1: two things that are wrong with one expression.
func TestOrderOfErrorsAtOnePlace(t *testing.T) {
	shape := read("(Cons x)")
	exprIs(t, "shape and scope", shape, api.ErrShape)
	shape.Num = 1
	exprIs(t, "a field, shape and scope", shape, api.ErrArg)
	exprIs(t, "alternatives", read("(case 1 of No x x -> y)"), api.ErrArg)
	exprIs(t, "alternatives", read("(case 1 of Cons x -> y)"), api.ErrShape)
	exprIs(t, "alternatives", read("(case y of Cons x -> 1; Cons x y -> 1)"), api.ErrArg)
	scope := variable("nowhere")
	scope.Args = many(1, number(1))
	exprIs(t, "a field and scope", scope, api.ErrArg)
}

// P7.1: CheckExpr takes a program's constructors as they are, the first one of a name, and its bindings' names alone.
func TestCheckExprTakesConsAsTheyAre(t *testing.T) {
	p := api.Prog{Cons: []api.Con{con("P", 2, "b", 7), con("P", 1, "a", 0), con("Q", 1, "b", -1), con("R", 0, "a", 7), con("S", -1, "", 0), con("T", 33, "", 0), con("U", 0, "", 0), con("R", 0, "b", 7)}}
	for text, want := range map[string]api.Errno{
		"(P 1 2)": api.OK, "(P 1)": api.ErrShape, "(Q 1)": api.OK, "(R)": api.OK, "(S)": api.ErrShape, "(S 1)": api.ErrShape, "(T 1)": api.ErrShape, "(U)": api.OK, "(Nil)": api.ErrShape, "(Unit)": api.ErrShape,
		"(case 1 of P x y -> 1; Q x -> 2)": api.OK, "(case 1 of P x -> 1; Q x -> 2)": api.ErrShape, "(case 1 of P x y -> 1; R -> 2)": api.ErrArg, "(case 1 of Q x -> 1; R -> 2)": api.ErrArg, "(case 1 of R -> 1; R -> 2)": api.ErrArg, "(case 1 of U -> 1; T -> 2)": api.ErrShape, "(case 1 of U -> 1; P x y -> 2)": api.ErrArg,
	} {
		if got := core.CheckExpr(p, read(text), nil); got != want {
			t.Errorf("CheckExpr of %s: %v instead of %v", text, got, want)
		}
	}
	wide := api.Expr{Kind: api.ExCon, Name: "T", Args: many(33, number(1))}
	if got := core.CheckExpr(p, wide, nil); got != api.OK {
		t.Errorf("CheckExpr of 33 parts: %v", got)
	}
	if got := core.CheckExpr(api.Prog{}, number(1), nil); got != api.OK {
		t.Errorf("CheckExpr in a program without anything: %v", got)
	}
}

func TestCheckExprLooksIntoNoBinds(t *testing.T) {
	p := api.Prog{Binds: []api.Bind{{Name: "z", E: testkit.Cyclic()}, {Name: "a", E: variable("nowhere")}, {Name: "z", E: api.Expr{}}, {Name: "", E: read("(No)")}, {Name: "a b"}}}
	for text, want := range map[string]api.Errno{"z": api.OK, "a": api.OK, "nowhere": api.ErrScope, "(z a)": api.OK, "b": api.ErrScope, "v": api.OK, "(v w)": api.OK, "(v u)": api.ErrScope, "(\\ u -> (v u))": api.OK, "(\\ v -> (v w))": api.OK, "main": api.ErrScope} {
		if got := core.CheckExpr(p, read(text), []string{"w", "v", "v", "", "not a name"}); got != want {
			t.Errorf("CheckExpr of %s: %v instead of %v", text, got, want)
		}
	}
	if got := core.CheckExpr(p, read("v"), nil); got != api.ErrScope {
		t.Errorf("CheckExpr without variables: %v", got)
	}
}

// P7.1: too many expressions, or nested too deep: by each list of parts, in a program and alone.
func TestTooGreatForCheck(t *testing.T) {
	for what, e := range testkit.TooGreat() {
		exprIs(t, what, e, api.ErrLong)
	}
	for what, e := range testkit.Greatest() {
		exprIs(t, what, e, api.OK)
	}
	half := testkit.Tree(api.MaxNodes / 2)
	p := api.Prog{Cons: cons(), Binds: []api.Bind{{Name: "a", E: half}, {Name: "main", E: half}}}
	checkIs(t, "just not too many in two bindings", p, api.OK)
	p.Binds = append(p.Binds, api.Bind{Name: "z", E: number(1)})
	checkIs(t, "one too many in three bindings", p, api.ErrLong)
	if got := core.CheckExpr(p, testkit.Tree(api.MaxNodes), nil); got != api.OK {
		t.Errorf("CheckExpr counts what is not the expression's: %v", got)
	}
	deep := prog("a = 1", "main = 1")
	deep.Binds[0].E = testkit.Nested(api.MaxNest, number(1))
	checkIs(t, "deep in one binding", deep, api.OK)
	deep.Binds[0].E = testkit.Nested(api.MaxNest+1, number(1))
	checkIs(t, "too deep in one binding", deep, api.ErrLong)
}
