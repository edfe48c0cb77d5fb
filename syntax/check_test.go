package syntax_test

import (
	"math"
	"slices"
	"strings"
	"testing"

	"thunkmill/api"
	"thunkmill/syntax"
	"thunkmill/testkit"
)

func checkErr(t *testing.T, what string, n api.Node, want api.Errno) {
	t.Helper()
	if got := syntax.Check(n); got != want {
		t.Errorf("%s: Check = %v, want %v", what, got, want)
	}
}

// told is a node for a message.
func told(n api.Node) string {
	if text, e := syntax.Text(n); e == api.OK {
		return text
	}
	return "a node that may not be"
}

func TestCheckEachKind(t *testing.T) {
	all := samples()
	if len(all) != api.NdPOps {
		t.Fatalf("%d samples", len(all))
	}
	for i, s := range all {
		if s.node.Kind != i+1 {
			t.Errorf("sample %d is of kind %d", i, s.node.Kind)
		}
		checkErr(t, s.text, s.node, api.OK)
	}
}

func TestCheckKindsThatAreNone(t *testing.T) {
	for _, k := range []int{math.MinInt, -1, 0, 45, 46, math.MaxInt} {
		checkErr(t, "alone", of(k), api.ErrArg)
		checkErr(t, "with a kid", of(k, v("x")), api.ErrArg)
		checkErr(t, "as a kid", of(api.NdList, v("x"), of(k)), api.ErrArg)
		checkErr(t, "as a declaration", of(api.NdProgram, of(k)), api.ErrArg)
		checkErr(t, "as a pattern", of(api.NdPList, of(k)), api.ErrArg)
	}
	checkErr(t, "the zero node", api.Node{}, api.ErrArg)
}

// The place counts nothing, whatever it is.
func TestCheckPlaces(t *testing.T) {
	for _, at := range []int{math.MinInt, -1, 1, math.MaxInt} {
		for _, s := range samples() {
			n := testkit.Copied(s.node)
			testkit.Each(&n, func(n *api.Node) { n.At = at })
			checkErr(t, s.text, n, api.OK)
		}
	}
}

// A field that the kind does not have must be zero.
func TestCheckFieldsThatAKindHasNot(t *testing.T) {
	naming := []int{api.NdData, api.NdConDef, api.NdFixity, api.NdOp, api.NdEqn, api.NdVar, api.NdCon, api.NdString, api.NdLeft, api.NdRight, api.NdPVar, api.NdPString, api.NdPCon, api.NdPAs}
	counting := []int{api.NdConDef, api.NdFixity, api.NdInt, api.NdChar, api.NdPInt, api.NdPChar}
	for k := 1; k <= api.NdPOps; k++ {
		n := ofKind(k)
		n.Name = "x"
		if !slices.Contains(naming, k) {
			checkErr(t, "a name of "+told(ofKind(k)), n, api.ErrArg)
			checkErr(t, "a name of a kid of "+told(ofKind(k)), within(n), api.ErrArg)
		}
		for _, num := range []int64{math.MinInt64, -1, 1, math.MaxInt64} {
			n := ofKind(k)
			n.Num = num
			if !slices.Contains(counting, k) {
				checkErr(t, "a number of "+told(ofKind(k)), n, api.ErrArg)
				checkErr(t, "a number of a kid of "+told(ofKind(k)), within(n), api.ErrArg)
			}
		}
	}
}

// within is a node in which an expression, or another one, is a kid.
func within(n api.Node) api.Node {
	switch {
	case slices.Contains(testkit.Expressions(), n.Kind):
		return of(api.NdList, num(1), n)
	case slices.Contains(testkit.Patterns(), n.Kind):
		return of(api.NdPList, of(api.NdPAny), n)
	case slices.Contains(testkit.Declarations(), n.Kind):
		return of(api.NdProgram, bind("x", num(1)), n)
	case slices.Contains(testkit.Statements(), n.Kind):
		return of(api.NdComp, num(1), n)
	case n.Kind == api.NdRhs:
		return of(api.NdBind, pv("x"), n)
	case n.Kind == api.NdGuard:
		return rhs(n)
	case n.Kind == api.NdWhere:
		return of(api.NdLets, n)
	case n.Kind == api.NdConDef:
		return named(api.NdData, "T", n)
	case n.Kind == api.NdOp:
		return fixity("infix", 0, n)
	case n.Kind == api.NdAlt:
		return of(api.NdCase, num(1), n)
	}
	return n // a program is nobody's kid
}

// kidsRow tells of a kind which lists of kids may be, and which may not.
type kidsRow struct {
	kind  int
	good  [][]api.Node
	wrong [][]api.Node
}

func TestCheckHowManyKids(t *testing.T) {
	e, p, d, r, w := v("x"), pv("x"), bind("x", num(1)), rhs(num(1)), where()
	g, a, s, o := guard(num(1), num(2)), alt(pv("x"), num(1)), stmt(num(1)), op("+")
	l := func(kids ...api.Node) []api.Node { return kids }
	rows := []kidsRow{
		{kind: api.NdProgram, good: [][]api.Node{l(), l(d), l(d, d), repeated(d, 100)}, wrong: [][]api.Node{l(e), l(d, e), l(w), l(r), l(ofKind(api.NdProgram))}},
		{kind: api.NdData, good: [][]api.Node{l(conDef("C", 0)), repeated(conDef("C", 0), 100)}, wrong: [][]api.Node{l(), l(con("C")), l(conDef("C", 0), con("C"))}},
		{kind: api.NdConDef, good: [][]api.Node{l()}, wrong: [][]api.Node{l(pv("a")), l(v("a"))}},
		{kind: api.NdFixity, good: [][]api.Node{l(o), repeated(o, 100)}, wrong: [][]api.Node{l(), l(v("+")), l(o, v("+"))}},
		{kind: api.NdOp, good: [][]api.Node{l()}, wrong: [][]api.Node{l(o), l(e)}},
		{kind: api.NdEqn, good: [][]api.Node{l(p, r), l(p, p, r), append(repeated(p, 100), r)}, wrong: [][]api.Node{l(), l(r), l(p), l(p, p), l(r, p), l(p, r, r), l(p, r, p), l(e, r), l(p, e), l(p, r, w)}},
		{kind: api.NdBind, good: [][]api.Node{l(p, r)}, wrong: [][]api.Node{l(), l(p), l(r), l(r, p), l(p, p, r), l(p, r, r), l(e, r), l(p, e)}},
		{kind: api.NdRhs, good: [][]api.Node{l(e), l(e, w), l(g), l(g, w), l(g, g, g), l(g, g, g, w)}, wrong: [][]api.Node{l(), l(w), l(e, e), l(e, e, w), l(w, e), l(e, w, w), l(g, e), l(e, g), l(g, w, g), l(g, w, w), l(g, e, w), l(w, g), l(p), l(e, e, e)}},
		{kind: api.NdGuard, good: [][]api.Node{l(e, e)}, wrong: [][]api.Node{l(), l(e), l(e, e, e), l(p, e), l(e, p), l(e, r)}},
		{kind: api.NdWhere, good: [][]api.Node{l(), l(d), l(d, d)}, wrong: [][]api.Node{l(e), l(d, e), l(w)}},
		{kind: api.NdVar, good: [][]api.Node{l()}, wrong: [][]api.Node{l(e)}},
		{kind: api.NdCon, good: [][]api.Node{l()}, wrong: [][]api.Node{l(e)}},
		{kind: api.NdInt, good: [][]api.Node{l()}, wrong: [][]api.Node{l(e)}},
		{kind: api.NdChar, good: [][]api.Node{l()}, wrong: [][]api.Node{l(e)}},
		{kind: api.NdString, good: [][]api.Node{l()}, wrong: [][]api.Node{l(e)}},
		{kind: api.NdApp, good: [][]api.Node{l(e, e), l(e, e, e), repeated(e, 100)}, wrong: [][]api.Node{l(), l(e), l(e, p), l(p, e), l(e, e, o)}},
		{kind: api.NdOps, good: [][]api.Node{l(e, o, e), l(e, o, e, o, e)}, wrong: [][]api.Node{l(), l(e), l(o), l(e, o), l(o, e), l(e, e), l(e, o, e, o), l(o, e, o, e), l(e, o, e, e), l(e, e, e), l(o, e, o), l(e, o, o, e), l(e, o, p), l(p, o, e)}},
		{kind: api.NdNeg, good: [][]api.Node{l(e)}, wrong: [][]api.Node{l(), l(e, e), l(p)}},
		{kind: api.NdLam, good: [][]api.Node{l(p, e), l(p, p, e), append(repeated(p, 100), e)}, wrong: [][]api.Node{l(), l(e), l(p), l(p, p), l(e, e), l(p, e, e), l(e, p), l(p, r)}},
		{kind: api.NdLet, good: [][]api.Node{l(w, e)}, wrong: [][]api.Node{l(), l(w), l(e), l(e, w), l(w, e, e), l(w, w, e), l(d, e), l(w, p)}},
		{kind: api.NdIf, good: [][]api.Node{l(e, e, e)}, wrong: [][]api.Node{l(), l(e, e), l(e, e, e, e), l(p, e, e), l(e, p, e), l(e, e, p)}},
		{kind: api.NdCase, good: [][]api.Node{l(e, a), l(e, a, a), append(l(e), repeated(a, 100)...)}, wrong: [][]api.Node{l(), l(e), l(a), l(a, e), l(e, e), l(e, e, a), l(e, a, e), l(p, a)}},
		{kind: api.NdAlt, good: [][]api.Node{l(p, r)}, wrong: [][]api.Node{l(), l(p), l(r), l(p, p, r), l(p, r, r), l(e, r), l(p, e)}},
		{kind: api.NdDo, good: [][]api.Node{l(s), l(s, s), l(gen(p, e), s), l(lets(), s), l(lets(), gen(p, e), s, lets(), s)}, wrong: [][]api.Node{l(), l(gen(p, e)), l(lets()), l(s, gen(p, e)), l(s, lets()), l(e), l(s, e), l(e, s), l(s, p, s)}},
		{kind: api.NdTuple, good: [][]api.Node{l(e, e), l(e, e, e), l(e, e, e, e)}, wrong: [][]api.Node{l(), l(e), l(e, e, e, e, e), l(e, p), l(p, p)}},
		{kind: api.NdList, good: [][]api.Node{l(), l(e), l(e, e), repeated(e, 100)}, wrong: [][]api.Node{l(p), l(e, p), l(s)}},
		{kind: api.NdComp, good: [][]api.Node{l(e, s), l(e, gen(p, e)), l(e, lets()), l(e, s, gen(p, e), lets()), l(e, lets(), s, gen(p, e))}, wrong: [][]api.Node{l(), l(e), l(s), l(s, e), l(e, e), l(e, e, s), l(e, s, e), l(p, s)}},
		{kind: api.NdLeft, good: [][]api.Node{l(e)}, wrong: [][]api.Node{l(), l(e, e), l(p), l(o)}},
		{kind: api.NdRight, good: [][]api.Node{l(e)}, wrong: [][]api.Node{l(), l(e, e), l(p), l(o)}},
		{kind: api.NdParen, good: [][]api.Node{l(e)}, wrong: [][]api.Node{l(), l(e, e), l(p)}},
		{kind: api.NdGen, good: [][]api.Node{l(p, e)}, wrong: [][]api.Node{l(), l(p), l(e), l(p, e, e), l(p, p, e), l(e, e), l(e, p), l(p, r)}},
		{kind: api.NdLets, good: [][]api.Node{l(w)}, wrong: [][]api.Node{l(), l(w, w), l(d), l(w, e)}},
		{kind: api.NdStmt, good: [][]api.Node{l(e)}, wrong: [][]api.Node{l(), l(e, e), l(p), l(s)}},
		{kind: api.NdPVar, good: [][]api.Node{l()}, wrong: [][]api.Node{l(p)}},
		{kind: api.NdPAny, good: [][]api.Node{l()}, wrong: [][]api.Node{l(p)}},
		{kind: api.NdPInt, good: [][]api.Node{l()}, wrong: [][]api.Node{l(p)}},
		{kind: api.NdPChar, good: [][]api.Node{l()}, wrong: [][]api.Node{l(p)}},
		{kind: api.NdPString, good: [][]api.Node{l()}, wrong: [][]api.Node{l(p)}},
		{kind: api.NdPCon, good: [][]api.Node{l(), l(p), l(p, p), repeated(p, 100)}, wrong: [][]api.Node{l(e), l(p, e)}},
		{kind: api.NdPTuple, good: [][]api.Node{l(p, p), l(p, p, p), l(p, p, p, p)}, wrong: [][]api.Node{l(), l(p), l(p, p, p, p, p), l(p, e), l(e, e)}},
		{kind: api.NdPList, good: [][]api.Node{l(), l(p), l(p, p), repeated(p, 100)}, wrong: [][]api.Node{l(e), l(p, e)}},
		{kind: api.NdPAs, good: [][]api.Node{l(p)}, wrong: [][]api.Node{l(), l(p, p), l(e)}},
		{kind: api.NdPLazy, good: [][]api.Node{l(p)}, wrong: [][]api.Node{l(), l(p, p), l(e), l(paren(e))}},
		{kind: api.NdPOps, good: [][]api.Node{l(p, o, p), l(p, o, p, o, p)}, wrong: [][]api.Node{l(), l(p), l(o), l(p, o), l(o, p), l(p, p), l(p, o, p, o), l(p, o, p, p), l(p, p, p), l(p, o, o, p), l(p, o, e), l(e, o, p)}},
	}
	if len(rows) != api.NdPOps {
		t.Fatalf("%d rows", len(rows))
	}
	for _, r := range rows {
		n := ofKind(r.kind)
		for _, n.Kids = range r.good {
			checkErr(t, "kids that may be of "+told(ofKind(r.kind)), n, api.OK)
		}
		for _, n.Kids = range r.wrong {
			checkErr(t, "kids that may not be of "+told(ofKind(r.kind)), n, api.ErrArg)
		}
	}
}

// Each place for a kid takes the nodes of all kinds that the chapter names there, and no others.
func TestCheckWhichKids(t *testing.T) {
	e, p := v("x"), pv("x")
	only := func(k int) []int { return []int{k} }
	rows := []struct {
		what  string
		kinds []int
		hole  func(n api.Node) api.Node
	}{
		{"a program's", testkit.Declarations(), func(n api.Node) api.Node { return of(api.NdProgram, n) }},
		{"a block's", testkit.Declarations(), func(n api.Node) api.Node { return where(n) }},
		{"a type's", only(api.NdConDef), func(n api.Node) api.Node { return named(api.NdData, "T", n) }},
		{"a fixity's", only(api.NdOp), func(n api.Node) api.Node { return fixity("infix", 0, n) }},
		{"an equation's first", testkit.Patterns(), func(n api.Node) api.Node { return named(api.NdEqn, "f", n, rhs(e)) }},
		{"an equation's last", only(api.NdRhs), func(n api.Node) api.Node { return named(api.NdEqn, "f", p, n) }},
		{"a binding's first", testkit.Patterns(), func(n api.Node) api.Node { return of(api.NdBind, n, rhs(e)) }},
		{"a binding's last", only(api.NdRhs), func(n api.Node) api.Node { return of(api.NdBind, p, n) }},
		{"a right side's", append(testkit.Expressions(), api.NdGuard), func(n api.Node) api.Node { return rhs(n) }},
		{"a right side's with a block", append(testkit.Expressions(), api.NdGuard), func(n api.Node) api.Node { return rhs(n, where()) }},
		{"behind a right side's expression", only(api.NdWhere), func(n api.Node) api.Node { return rhs(e, n) }},
		{"behind a right side's guard", []int{api.NdGuard, api.NdWhere}, func(n api.Node) api.Node { return rhs(guard(e, e), n) }},
		{"a guard's first", testkit.Expressions(), func(n api.Node) api.Node { return guard(n, e) }},
		{"a guard's last", testkit.Expressions(), func(n api.Node) api.Node { return guard(e, n) }},
		{"an application's first", testkit.Expressions(), func(n api.Node) api.Node { return app(n, e) }},
		{"an application's last", testkit.Expressions(), func(n api.Node) api.Node { return app(e, e, n) }},
		{"the left operand", testkit.Expressions(), func(n api.Node) api.Node { return ops(n, op("+"), e) }},
		{"the operator", only(api.NdOp), func(n api.Node) api.Node { return ops(e, n, e) }},
		{"the second operator", only(api.NdOp), func(n api.Node) api.Node { return ops(e, op("+"), e, n, e) }},
		{"the right operand", testkit.Expressions(), func(n api.Node) api.Node { return ops(e, op("+"), n) }},
		{"what is negated", testkit.Expressions(), func(n api.Node) api.Node { return of(api.NdNeg, n) }},
		{"a lambda's first", testkit.Patterns(), func(n api.Node) api.Node { return of(api.NdLam, n, e) }},
		{"a lambda's last", testkit.Expressions(), func(n api.Node) api.Node { return of(api.NdLam, p, n) }},
		{"a let's first", only(api.NdWhere), func(n api.Node) api.Node { return of(api.NdLet, n, e) }},
		{"a let's last", testkit.Expressions(), func(n api.Node) api.Node { return of(api.NdLet, where(), n) }},
		{"an if's first", testkit.Expressions(), func(n api.Node) api.Node { return of(api.NdIf, n, e, e) }},
		{"an if's second", testkit.Expressions(), func(n api.Node) api.Node { return of(api.NdIf, e, n, e) }},
		{"an if's last", testkit.Expressions(), func(n api.Node) api.Node { return of(api.NdIf, e, e, n) }},
		{"a case's first", testkit.Expressions(), func(n api.Node) api.Node { return of(api.NdCase, n, alt(p, e)) }},
		{"a case's last", only(api.NdAlt), func(n api.Node) api.Node { return of(api.NdCase, e, n) }},
		{"an alternative's first", testkit.Patterns(), func(n api.Node) api.Node { return of(api.NdAlt, n, rhs(e)) }},
		{"an alternative's last", only(api.NdRhs), func(n api.Node) api.Node { return of(api.NdAlt, p, n) }},
		{"a do's first", testkit.Statements(), func(n api.Node) api.Node { return of(api.NdDo, n, stmt(e)) }},
		{"a do's last", only(api.NdStmt), func(n api.Node) api.Node { return of(api.NdDo, stmt(e), n) }},
		{"a do's only", only(api.NdStmt), func(n api.Node) api.Node { return of(api.NdDo, n) }},
		{"a tuple's", testkit.Expressions(), func(n api.Node) api.Node { return of(api.NdTuple, e, n) }},
		{"a list's", testkit.Expressions(), func(n api.Node) api.Node { return of(api.NdList, n) }},
		{"a comprehension's first", testkit.Expressions(), func(n api.Node) api.Node { return of(api.NdComp, n, stmt(e)) }},
		{"a comprehension's last", testkit.Statements(), func(n api.Node) api.Node { return of(api.NdComp, e, n) }},
		{"a left section's", testkit.Expressions(), func(n api.Node) api.Node { return named(api.NdLeft, "+", n) }},
		{"a right section's", testkit.Expressions(), func(n api.Node) api.Node { return named(api.NdRight, "+", n) }},
		{"in parentheses", testkit.Expressions(), func(n api.Node) api.Node { return paren(n) }},
		{"a generator's first", testkit.Patterns(), func(n api.Node) api.Node { return gen(n, e) }},
		{"a generator's last", testkit.Expressions(), func(n api.Node) api.Node { return gen(p, n) }},
		{"a statement let's", only(api.NdWhere), func(n api.Node) api.Node { return of(api.NdLets, n) }},
		{"a statement's", testkit.Expressions(), func(n api.Node) api.Node { return stmt(n) }},
		{"a constructor's pattern's", testkit.Patterns(), func(n api.Node) api.Node { return pcon("C", n) }},
		{"a tuple's pattern's", testkit.Patterns(), func(n api.Node) api.Node { return of(api.NdPTuple, p, n) }},
		{"a list's pattern's", testkit.Patterns(), func(n api.Node) api.Node { return of(api.NdPList, n) }},
		{"behind @", testkit.Patterns(), func(n api.Node) api.Node { return named(api.NdPAs, "x", n) }},
		{"behind ~", testkit.Patterns(), func(n api.Node) api.Node { return of(api.NdPLazy, n) }},
		{"a pattern's left operand", testkit.Patterns(), func(n api.Node) api.Node { return of(api.NdPOps, n, op(":"), p) }},
		{"a pattern's operator", only(api.NdOp), func(n api.Node) api.Node { return of(api.NdPOps, p, n, p) }},
		{"a pattern's right operand", testkit.Patterns(), func(n api.Node) api.Node { return of(api.NdPOps, p, op(":"), n) }},
	}
	for _, r := range rows {
		for k := 1; k <= api.NdPOps; k++ {
			want := api.ErrArg
			if slices.Contains(r.kinds, k) {
				want = api.OK
			}
			checkErr(t, r.what+" "+told(ofKind(k)), r.hole(ofKind(k)), want)
			// A kid that may not be is refused wherever it stands.
			wrong := ofKind(k)
			wrong.Kids = append(slices.Clone(wrong.Kids), api.Node{})
			checkErr(t, r.what+" with a wrong kid "+told(ofKind(k)), r.hole(wrong), api.ErrArg)
		}
	}
}

func TestCheckNumbers(t *testing.T) {
	rows := []struct {
		node     api.Node
		from, to int64
	}{
		{conDef("C", 0), 0, 32},
		{fixity("infixl", 0, op("+")), 0, 9},
		{counted(api.NdChar, 0), 0, 255},
		{counted(api.NdPChar, 0), 0, 255},
		{num(0), 0, math.MaxInt64},
		{counted(api.NdPInt, 0), 0, math.MaxInt64},
	}
	for _, r := range rows {
		for _, n := range []int64{math.MinInt64, -1 << 32, -256, -2, -1, 0, 1, 8, 9, 10, 11, 31, 32, 33, 34, 254, 255, 256, 257, 1 << 32, math.MaxInt64 - 1, math.MaxInt64} {
			want := api.ErrArg
			if r.from <= n && n <= r.to {
				want = api.OK
			}
			r.node.Num = n
			checkErr(t, "a number", r.node, want)
			checkErr(t, "a kid's number", within(r.node), want)
		}
	}
}

func TestCheckNames(t *testing.T) {
	names := []string{"x", "z", "_x", "__", "_1", "x'", "aB0_'", "infixly", "lets", "a", strings.Repeat("x", api.MaxSource)}
	cons := []string{"X", "Z", "C1_'", "Let", strings.Repeat("X", api.MaxSource)}
	opers := []string{"+", "-", ".", "...", "-->", "|--", "==", "<->", `\\`, "||", "~~", "!#$%&*+./<=>?@\\^|-~:", strings.Repeat("+", api.MaxSource)}
	conOpers := []string{":", "::", ":+", ":--", ":=", strings.Repeat(":", api.MaxSource)}
	none := []string{"", " ", "\n", "\x00", "1", "12", "1x", "'a'", `"a"`, `"x`, "'", "x y", " x", "x ", "X Y", "x\n", "\tX", "+ +", " :", "x.y", "x+", "+x", "X:", "x--c", "X--c", "--", "---", "-- x", "{-", "{--}", "{--}x", "x{--}", "(+)", "(", ")", "[]", "()", ",", ";", "`", "`f`", "{", "}", "\xc3\xa9", "x\xc3\xa9", "+\xff", "?\x7f", "x\r"}
	for _, w := range strings.Fields("case data do else if in infix infixl infixr let of then where _") {
		none = append(none, w)
	}
	for _, s := range strings.Fields(`.. = \ | <- -> @ ~`) {
		none = append(none, s)
	}
	none = append(none, strings.Repeat("x", api.MaxSource+1), strings.Repeat("X", api.MaxSource+1), strings.Repeat("+", api.MaxSource+1), strings.Repeat(":", api.MaxSource+1))
	all := [][]string{names, cons, opers, conOpers, none}
	const name, capital, oper, conOper = 0, 1, 2, 3
	p := pv("x")
	rows := []struct {
		node api.Node
		good []int
	}{
		{named(api.NdData, "", conDef("C", 0)), []int{capital}},
		{conDef("", 0), []int{capital}},
		{op(""), []int{name, capital, oper, conOper}},
		{named(api.NdEqn, "", p, p, rhs(num(1))), []int{name, oper}},
		{v(""), []int{name, oper}},
		{con(""), []int{capital, conOper}},
		{named(api.NdLeft, "", num(1)), []int{name, capital, oper, conOper}},
		{named(api.NdRight, "", num(1)), []int{name, capital, oper, conOper}},
		{pv(""), []int{name}},
		{pcon("", p, p), []int{capital, conOper}},
		{pcon("", p), []int{capital}},
		{named(api.NdPAs, "", p), []int{name}},
	}
	for _, r := range rows {
		for class, l := range all {
			want := api.ErrArg
			if slices.Contains(r.good, class) {
				want = api.OK
			}
			for _, r.node.Name = range l {
				checkErr(t, "kind "+told(ofKind(r.node.Kind))+", name "+r.node.Name[:min(len(r.node.Name), 30)], r.node, want)
				checkErr(t, "within, "+told(ofKind(r.node.Kind))+", name "+r.node.Name[:min(len(r.node.Name), 30)], within(r.node), want)
			}
		}
	}
}

// Names are asked for node by node: one that may be here may not be there.
func TestCheckOneNameInSeveralPlaces(t *testing.T) {
	checkErr(t, "x, x", of(api.NdList, v("x"), v("x")), api.OK)
	checkErr(t, "x, then a constructor x", of(api.NdList, v("x"), con("x")), api.ErrArg)
	checkErr(t, "a constructor X, then a variable X", of(api.NdList, con("X"), v("X")), api.ErrArg)
	checkErr(t, "the same the other way round", of(api.NdList, v("X"), con("X")), api.ErrArg)
	checkErr(t, "let as a variable, twice", of(api.NdList, v("let"), v("let")), api.ErrArg)
}

func TestCheckFixityWords(t *testing.T) {
	for _, w := range []string{"infixl", "infixr", "infix"} {
		checkErr(t, w, fixity(w, 5, op("+")), api.OK)
	}
	for _, w := range []string{"", "infixx", "Infixl", "infixl ", "infi", "let", "x", "+", "left"} {
		checkErr(t, w, fixity(w, 5, op("+")), api.ErrArg)
	}
}

// Any bytes are a string's characters.
func TestCheckStrings(t *testing.T) {
	for _, k := range []int{api.NdString, api.NdPString} {
		for _, s := range []string{"", "a", "let", "\x00", "\n", "\"", "\\", "\xff\xfe", strings.Repeat("a", api.MaxSource+1)} {
			checkErr(t, "a string", named(k, s), api.OK)
		}
	}
}

func TestCheckConstructorsOfPatterns(t *testing.T) {
	for parts := range 40 {
		kids := repeated(of(api.NdPAny), parts)
		want := api.ErrArg
		if parts == 2 {
			want = api.OK
		}
		checkErr(t, "( : )", pcon(":", kids...), want)
		checkErr(t, "( :+ )", pcon(":+", kids...), want)
		checkErr(t, "C", pcon("C", kids...), api.OK)
		checkErr(t, "+", pcon("+", kids...), api.ErrArg)
		checkErr(t, "x", pcon("x", kids...), api.ErrArg)
		checkErr(t, "( : ) within", of(api.NdLam, pcon(":", kids...), num(1)), want)
	}
}

// Operators of NdPOps may be any here: which of them are wrong is layer 5's to tell.
func TestCheckOperatorsOfPatterns(t *testing.T) {
	for _, name := range []string{"+", ":", "f", "C"} {
		checkErr(t, name, of(api.NdPOps, pv("x"), op(name), pv("y")), api.OK)
	}
}

func TestCheckDepth(t *testing.T) {
	checkErr(t, "256 deep", nested(api.MaxDeep), api.OK)
	checkErr(t, "257 deep", nested(api.MaxDeep+1), api.ErrLong)
	checkErr(t, "far deeper", nested(100000), api.ErrLong)
	last := func(deep int) api.Node { return of(api.NdList, num(1), num(2), nested(deep-1)) }
	checkErr(t, "256 deep in the last kid", last(api.MaxDeep), api.OK)
	checkErr(t, "257 deep in the last kid", last(api.MaxDeep+1), api.ErrLong)
	lazy := pv("x")
	for range api.MaxDeep - 1 {
		lazy = of(api.NdPLazy, lazy)
	}
	checkErr(t, "a pattern that is 256 deep", lazy, api.OK)
	checkErr(t, "a pattern that is 257 deep", of(api.NdPLazy, lazy), api.ErrLong)
}

func TestCheckHowManyNodes(t *testing.T) {
	checkErr(t, "2^20 nodes", wide(api.MaxNodes), api.OK)
	checkErr(t, "2^20 and 1 nodes", wide(api.MaxNodes+1), api.ErrLong)
	checkErr(t, "2^20 - 1 nodes of several lists", shared(19), api.OK)
	checkErr(t, "2^21 - 1 nodes of several lists", shared(20), api.ErrLong)
	checkErr(t, "2^20 nodes of several lists", of(api.NdNeg, shared(19)), api.OK)
	checkErr(t, "2^20 and 1 nodes of several lists", of(api.NdNeg, of(api.NdNeg, shared(19))), api.ErrLong)
	checkErr(t, "2^201 nodes", shared(200), api.ErrLong)
}

// A node that is too great or too deep is so whatever else is wrong with it.
func TestCheckOrderOfErrors(t *testing.T) {
	deep, many := nested(api.MaxDeep+1), wide(api.MaxNodes+1)
	for _, n := range []api.Node{deep, many} {
		n.Kind = 0
		checkErr(t, "no kind", n, api.ErrLong)
		n.Kind = api.NdVar
		checkErr(t, "kids of a variable", n, api.ErrLong)
		n.Kind, n.Name = api.NdParen, "x"
		checkErr(t, "a name", n, api.ErrLong)
		n.Name, n.Num = "", 1
		checkErr(t, "a number", n, api.ErrLong)
		checkErr(t, "a wrong node ahead", of(api.NdTuple, api.Node{}, n), api.ErrLong)
		checkErr(t, "a wrong node behind", of(api.NdTuple, n, api.Node{}), api.ErrLong)
	}
	deep = nested(api.MaxDeep)
	deep.Num = 1
	checkErr(t, "256 deep, a number", deep, api.ErrArg)
	many = wide(api.MaxNodes)
	many.Kids[len(many.Kids)-1].Kind = 45
	checkErr(t, "2^20 nodes, the last one of no kind", many, api.ErrArg)
	innermost := nested(api.MaxDeep)
	testkit.Each(&innermost, func(n *api.Node) {
		if n.Kind == api.NdVar {
			n.Name = "let"
		}
	})
	checkErr(t, "256 deep, a wrong name in the innermost one", innermost, api.ErrArg)
}

func TestCheckListsAmongTheirOwnKids(t *testing.T) {
	for _, k := range []int{-1, 0, api.NdVar, api.NdApp, api.NdParen, api.NdPList} {
		checkErr(t, "endless", endless(k), api.ErrLong)
	}
}
