package prep_test

import (
	"slices"
	"strings"
	"testing"

	"thunkmill/api"
	"thunkmill/core"
	"thunkmill/prep"
	"thunkmill/prim"
	"thunkmill/testkit"
)

func atomIs(t *testing.T, what string, e api.Expr, want bool) {
	t.Helper()
	if is := prep.Atom(e); is != want {
		t.Errorf("Atom of %s: %v", what, is)
	}
}

func normalIs(t *testing.T, what string, e api.Expr, want bool) {
	t.Helper()
	if is := prep.Normal(e); is != want {
		t.Errorf("Normal of %s: %v", what, is)
	}
}

// P18.2: a variable, a number, a character are atoms, nothing else is.
func TestAtom(t *testing.T) {
	for _, text := range append(atoms(), "0", "9223372036854775807", "-9223372036854775808", "'0'", "'255'", "%no", "~1") {
		atomIs(t, text, read(text), true)
		normalIs(t, text, read(text), true)
	}
	for _, x := range later() {
		atomIs(t, x[0], read(x[0]), false)
		atomIs(t, x[1], read(x[1]), false)
	}
}

// P18.2: each kind of expression with parts that are prepared, and with one that is not.
func TestNormal(t *testing.T) {
	for _, x := range later() {
		normalIs(t, x[0], read(x[0]), x[0] == x[1])
		normalIs(t, x[1], read(x[1]), true)
	}
	for _, around := range []string{"(\\ x -> %)", "(% 1)", "(% 1 x '2')", "(let u = % in u)", "(let u = 1; v = % in u)", "(let u = 1; v = %; w = 2 in u)", "(let u = 1 in %)", "(case % of 1 -> 2)", "(case 1 of 1 -> %)", "(case 1 of 1 -> 2; 2 -> %)", "(case 1 of 1 -> 2; _ -> %)", "(case 1 of Cons u v -> %; Nil -> 2)"} {
		for _, x := range later() {
			normalIs(t, around+" with "+x[0], read(strings.ReplaceAll(around, "%", x[0])), x[0] == x[1])
			normalIs(t, around+" with "+x[1], read(strings.ReplaceAll(around, "%", x[1])), true)
		}
	}
	for _, around := range []string{"(f %)", "(f % 1)", "(f 1 % 2)", "(f 1 2 %)", "(Four % 1 2 3)", "(Four 1 2 % 3)", "(Four 1 2 3 %)", "(Blue %)", "(Cons % 1)", "(Cons 1 %)", "(Other %)"} {
		for _, x := range later() {
			normalIs(t, around+" with "+x[1], read(strings.ReplaceAll(around, "%", x[1])), false)
		}
		for _, atom := range atoms() {
			normalIs(t, around+" with "+atom, read(strings.ReplaceAll(around, "%", atom)), true)
		}
	}
}

// P18.2: the strict arguments of each primitive may be anything that is prepared, its others atoms alone.
func TestNormalOfPrimitives(t *testing.T) {
	for _, name := range prim.Names() {
		n := core.Arity(name)
		e := api.Expr{Kind: api.ExPrim, Name: name, Args: slices.Repeat(list(number(1)), n)}
		normalIs(t, name+" of numbers", e, true)
		for i := range n {
			for _, x := range later() {
				for _, text := range x {
					e.Args[i] = read(text)
					normalIs(t, core.Text(e), e, i < prim.Strict(name) && text == x[1])
				}
			}
			e.Args[i] = variable("x")
		}
		normalIs(t, name+" of variables", e, true)
	}
}

// P18.2: bound names count nothing for an expression.
func TestNormalOfAnyNames(t *testing.T) {
	for _, text := range []string{"(\\ x -> (\\ x -> x))", "(let x = (let x = 1 in x) in (\\ x -> x))", "(case x of x -> (case x of x -> x))", "((\\ x -> x) x)", "nowhere"} {
		normalIs(t, text, read(text), true)
	}
}

// P18.2: expressions that may not be are told of by the parts that their kind has, whatever they have.
func TestNormalOfWhatMayNotBe(t *testing.T) {
	one, not := number(1), read("(f (g x))")
	part := func(kind int, args ...api.Expr) api.Expr { return api.Expr{Kind: kind, Args: args} }
	other := func(e api.Expr) api.Expr {
		e.Name, e.Num, e.Params = "a b", -77, []string{"x", "x", ""}
		return e
	}
	for what, e := range map[string]api.Expr{
		"a variable without a name": {Kind: api.ExVar}, "a variable of parts": {Kind: api.ExVar, Args: list(not), Binds: []api.Bind{{E: not}}, Alts: []api.Alt{{E: not}}}, "a number of parts": {Kind: api.ExInt, Name: "x", Args: list(not)},
		"a character above all": {Kind: api.ExChar, Num: 256, Alts: []api.Alt{{E: not}}}, "a character below 0": {Kind: api.ExChar, Num: -1},
	} {
		atomIs(t, what, e, true)
		normalIs(t, what, e, true)
	}
	for what, e := range map[string]api.Expr{
		"a lambda of nothing": part(api.ExLam), "a lambda of two": part(api.ExLam, one, read("(f x)")), "a constructor of none": part(api.ExCon), "a constructor with more": {Kind: api.ExCon, Name: "Nil", Args: slices.Repeat(list(one), 40)},
		"an application of nothing": part(api.ExApp), "an application to nothing": part(api.ExApp, one), "an application to nothing of another": part(api.ExApp, read("(f 1)")), "an application to many": part(api.ExApp, slices.Repeat(list(one), 40)...),
		"a let of nothing": part(api.ExLet), "a let without bindings": part(api.ExLet, read("(f x)")), "a let without a body": {Kind: api.ExLet, Binds: []api.Bind{{E: one}}}, "a let of two": part(api.ExLet, one, read("(f x)")), "a let that binds twice": read("(let x = 1; x = 2 in x)"),
		"a case of nothing": part(api.ExCase), "a case without alternatives": part(api.ExCase, read("(f x)")), "a case of alternatives alone": {Kind: api.ExCase, Alts: []api.Alt{{E: one}, {Kind: 77, E: read("(f x)")}}},
		"add of nothing": {Kind: api.ExPrim, Name: "add"}, "add of one": {Kind: api.ExPrim, Name: "add", Args: list(read("(f x)"))}, "add of three": {Kind: api.ExPrim, Name: "add", Args: list(read("(f x)"), read("(f x)"), one)}, "seq of one": {Kind: api.ExPrim, Name: "seq", Args: list(read("(f x)"))}, "getc of one": {Kind: api.ExPrim, Name: "getc", Args: list(one)},
		"a primitive that is none": {Kind: api.ExPrim, Name: "none", Args: list(one, variable("x"))}, "a primitive without a name": {Kind: api.ExPrim},
	} {
		normalIs(t, what, e, true)
		if e.Kind != api.ExPrim {
			normalIs(t, what+", and other fields", other(e), true)
		}
		atomIs(t, what, e, false)
	}
	for what, e := range map[string]api.Expr{
		"a lambda of two, the last not": part(api.ExLam, one, not), "a lambda of two, the first not": part(api.ExLam, not, one), "an application of one that is not": part(api.ExApp, not), "an application to many, the last not": part(api.ExApp, append(slices.Repeat(list(one), 40), read("(f x)"))...),
		"a constructor of none of one that is not": part(api.ExCon, read("(f x)")), "a let of two, the last not": part(api.ExLet, one, not), "a let without a body that is not": {Kind: api.ExLet, Binds: []api.Bind{{E: not}}}, "a case of two, the last not": part(api.ExCase, one, not), "a case of alternatives alone, one not": {Kind: api.ExCase, Alts: []api.Alt{{E: one}, {E: not}}},
		"add of three, the last no atom": {Kind: api.ExPrim, Name: "add", Args: list(one, one, read("(f x)"))}, "add of one that is not": {Kind: api.ExPrim, Name: "add", Args: list(not)}, "getc of no atom": {Kind: api.ExPrim, Name: "getc", Args: list(read("(f x)"))},
		"none of no atom": {Kind: api.ExPrim, Name: "none", Args: list(read("(f x)"))}, "none of a second that is no atom": {Kind: api.ExPrim, Name: "none", Args: list(one, read("(f x)"))},
	} {
		normalIs(t, what, e, false)
		normalIs(t, what+", and other names", testkit.Nested(3, e), false)
	}
}

// P18.2: of a kind that is none.
func TestNormalOfNoKind(t *testing.T) {
	one := number(1)
	for _, kind := range []int{0, 10, -1, 11, 1 << 40, -1 << 63} {
		for _, e := range []api.Expr{{Kind: kind}, {Kind: kind, Name: "x"}, {Kind: kind, Num: 7}, {Kind: kind, Args: list(one)}, {Kind: kind, Binds: []api.Bind{{Name: "x", E: one}}, Args: list(one)}, {Kind: kind, Params: []string{"x"}, Args: list(one)}} {
			atomIs(t, "a kind that is none", e, false)
			normalIs(t, "a kind that is none", e, false)
			normalIs(t, "a lambda of it", testkit.Nested(2, e), false)
			normalIs(t, "an argument of it", api.Expr{Kind: api.ExApp, Args: list(one, e)}, false)
		}
	}
}

// P18.2: nothing is told of what is too great or too deep; of what just is not, all.
func TestNormalOfGreat(t *testing.T) {
	for what, e := range testkit.TooGreat() {
		normalIs(t, what, e, false)
		for _, kind := range []int{api.ExVar, api.ExInt, api.ExChar, api.ExLam} {
			e.Kind = kind
			atomIs(t, what, e, false)
			normalIs(t, what, e, false)
		}
	}
	for what, e := range testkit.Greatest() {
		normalIs(t, what, e, strings.HasPrefix(what, "deep"))
		for _, kind := range []int{api.ExVar, api.ExInt, api.ExChar} {
			e.Kind = kind
			atomIs(t, what, e, true)
			normalIs(t, what, e, true)
		}
	}
	for n, want := range map[int]bool{api.MaxNodes - 1: true, api.MaxNodes: true, api.MaxNodes + 1: false} {
		normalIs(t, "flat", testkit.Flat(n), want)
		normalIs(t, "flat within a lambda", testkit.Nested(2, testkit.Flat(n-1)), want)
		atomIs(t, "a variable with parts", api.Expr{Kind: api.ExVar, Args: list(testkit.Flat(n - 1))}, want)
	}
}
