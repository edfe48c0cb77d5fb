package fixity_test

import (
	"math"
	"runtime/debug"
	"slices"
	"strconv"
	"strings"
	"testing"

	"thunkmill/api"
	"thunkmill/fixity"
	"thunkmill/syntax"
)

// The chapter's examples.
func TestExamples(t *testing.T) {
	for _, r := range [][2]string{
		{"1 + 2 * 3", "+ 1 (* 2 3)"},
		{"1 - 2 - 3", "- (- 1 2) 3"},
		{"a : b : c", ": a (: b c)"},
		{"- 1 + 2", "+ (neg 1) 2"},
		{"- a * b", "neg (* a b)"},
		{"1 * - 2", "!4"},
		{"a == b == c", "!7"},
		{"a $ b `f` c", "$ a (f b c)"},
	} {
		checkOrder(t, r[0], expression(r[0]), fixity.Builtin(), r[1])
	}
}

// quoted is an operator as it stands in a text.
func quoted(name string) string {
	if name[0] >= 'A' && name[0] <= 'Z' || name[0] >= '_' && name[0] <= 'z' {
		return "`" + name + "`"
	}
	return name
}

// Each built-in operator, and some that no table tells of, beside each.
func TestPairsOfOperators(t *testing.T) {
	all := append(builtin(), holds("f left 9 Con left 9 % left 9 :+ left 9")...)
	for _, f := range all {
		checkOrder(t, f.Name, expression("a "+quoted(f.Name)+" b"), fixity.Builtin(), f.Name+" a b")
		for _, g := range all {
			text := "a " + quoted(f.Name) + " b " + quoted(g.Name) + " c"
			left, right := g.Name+" ("+f.Name+" a b) c", f.Name+" a ("+g.Name+" b c)"
			want := "!" + strconv.Itoa(strings.LastIndex(text, " b ")+3)
			switch {
			case f.Level > g.Level, f.Level == g.Level && f.Side == api.SideLeft && g.Side == api.SideLeft:
				want = left
			case f.Level < g.Level, f.Level == g.Level && f.Side == api.SideRight && g.Side == api.SideRight:
				want = right
			}
			checkOrder(t, text, expression(text), fixity.Builtin(), want)
		}
	}
}

// Two operators of all sides and levels.
func TestPairsOfSidesAndLevels(t *testing.T) {
	for a := range 30 {
		for b := range 30 {
			l := []api.Fixity{{Name: "%", Side: a%3 + 1, Level: a / 3}, {Name: "#", Side: b%3 + 1, Level: b / 3}}
			want := "!6"
			switch {
			case a/3 > b/3, a/3 == b/3 && a%3 == 0 && b%3 == 0:
				want = "# (% a b) c"
			case a/3 < b/3, a/3 == b/3 && a%3 == 1 && b%3 == 1:
				want = "% a (# b c)"
			}
			checkOrder(t, "a % b # c", expression("a % b # c"), l, want)
		}
	}
}

func TestChains(t *testing.T) {
	l := holds("< left 3 <. left 3 > right 3 .> right 3 = none 3 =. none 3 l0 left 0 r0 right 0 l9 left 9 r9 right 9 n9 none 9")
	for _, r := range [][2]string{
		{"a", "a"},
		{"a < b < c < d < e", "< (< (< (< a b) c) d) e"},
		{"a < b <. c < d", "< (<. (< a b) c) d"},
		{"a > b > c > d > e", "> a (> b (> c (> d e)))"},
		{"a > b .> c > d", "> a (.> b (> c d))"},
		{"a == b", "== a b"},
		{"a < b > c", "!6"},
		{"a > b < c", "!6"},
		{"a < b < c > d < e > f", "!10"},
		{"a > b > c > d < e", "!14"},
		{"a `n9` b `n9` c", "!9"},
		{"a `n9` b < c `n9` d", "< (n9 a b) (n9 c d)"},
		{"a < b `n9` c < d", "< (< a (n9 b c)) d"},
		{"a > b `n9` c > d", "> a (> (n9 b c) d)"},
		{"a `l0` b `l0` c", "l0 (l0 a b) c"},
		{"a `r0` b `r0` c", "r0 a (r0 b c)"},
		{"a `l0` b `r0` c", "!9"},
		{"a `l9` b `l9` c", "l9 (l9 a b) c"},
		{"a `r9` b `r9` c", "r9 a (r9 b c)"},
		{"a `r9` b `l9` c", "!9"},
		{"a `f` b `g` c", "g (f a b) c"}, // which no table tells of
		{"a `l9` b `f` c `C` d ? e", "? (C (f (l9 a b) c) d) e"},
		{"a `f` b `r9` c", "!8"},
		{"a `r9` b `f` c", "!9"},
		{"a `l0` b < c `r9` d > e", "!20"},
		{"a `l0` b `r9` c > d `l0` e", "l0 (l0 a (> (r9 b c) d)) e"},
		{"a > b `r9` c `r9` d > e `r9` f `l0` g", "l0 (> a (> (r9 b (r9 c d)) (r9 e f))) g"},
		{"a `l0` b > c `l0` d > e > f", "l0 (l0 a (> b c)) (> d (> e f))"},
		{"1 `C` 2 :+ 3", ":+ (C 1 2) 3"},
	} {
		checkOrder(t, r[0], expression(r[0]), l, r[1])
	}
	checkOrder(t, "no table", expression("1 + 2 * 3 : 4"), nil, ": (* (+ 1 2) 3) 4")
	checkOrder(t, "an empty table", expression("1 + 2 * 3 : 4"), []api.Fixity{}, ": (* (+ 1 2) 3) 4")
}

// An operator that is a constructor's is an NdCon, another one an NdVar; in patterns there is an NdPCon.
func TestWhatIsApplied(t *testing.T) {
	for _, name := range []string{"+", "-", "~~", "f", "_A", "div"} {
		n := expression("a + b")
		n.Kids[1].Name = name
		checkKinds(t, n, api.NdVar, name)
	}
	for _, name := range []string{":", "::", ":+", "A", "Z", "Cons", "Z'"} {
		n := expression("a + b")
		n.Kids[1].Name = name
		checkKinds(t, n, api.NdCon, name)
		p := pattern("a : b")
		p.Kids[1].Name = name
		got, f := fixity.Resolve(p, nil)
		if f != (api.Fault{}) || got.Kind != api.NdPCon || got.Name != name || len(got.Kids) != 2 || syntax.Check(got) != api.OK {
			t.Errorf("%s: %v, %v", name, got, f)
		}
	}
}

func checkKinds(t *testing.T, n api.Node, head int, name string) {
	t.Helper()
	got, f := fixity.Resolve(n, nil)
	if f != (api.Fault{}) || got.Kind != api.NdApp || len(got.Kids) != 3 || got.Kids[0].Kind != head || got.Kids[0].Name != name || syntax.Check(got) != api.OK {
		t.Errorf("%s: %v, %v", name, got, f)
	}
}

func TestNegation(t *testing.T) {
	l := append(builtin(), holds("l5 left 5 r5 right 5 n5 none 5 l6 left 6 r6 right 6 n6 none 6 l7 left 7 r7 right 7 n7 none 7")...)
	rows := [][2]string{
		{"- a", "neg a"}, // no operand of operators
		{"- a + b", "+ (neg a) b"},
		{"- a - b", "- (neg a) b"},
		{"- a - b - c", "- (- (neg a) b) c"},
		{"- a * b * c", "neg (* (* a b) c)"},
		{"- a * b + c", "+ (neg (* a b)) c"},
		{"- a . b . c", "neg (. a (. b c))"},
		{"- a `f` b", "neg (f a b)"},
		{"- a == b", "== (neg a) b"},
		{"- a : b", ": (neg a) b"},
		{"- a `l6` b", "l6 (neg a) b"},
		{"- a `r6` b", "!4"},
		{"- a `n6` b", "!4"},
		{"- a `l7` b", "neg (l7 a b)"},
		{"- a `r7` b `r7` c", "neg (r7 a (r7 b c))"},
		{"- a `n7` b", "neg (n7 a b)"},
		{"- a `n7` b `n7` c", "!11"},
		{"- a * b `r6` c", "!8"},
		{"- a `l5` b", "l5 (neg a) b"},

		{"a == - b", "== a (neg b)"}, // behind an operator below 6
		{"a == - b * c", "== a (neg (* b c))"},
		{"a == - b + c", "== a (+ (neg b) c)"},
		{"a == - b == c", "!9"},
		{"a $ - b $ - c", "$ a ($ (neg b) (neg c))"},
		{"a : - b : c", ": a (: (neg b) c)"},
		{"a `l5` - b `l5` c", "l5 (l5 a (neg b)) c"},
		{"a `r5` - b `r5` - c * d", "r5 a (r5 (neg b) (neg (* c d)))"},
		{"a `n5` - b", "n5 a (neg b)"},
		{"a `n5` - b `n5` c", "!11"},
		{"- a $ - b", "$ (neg a) (neg b)"},
		{"a >> - b - c >> d", ">> (>> a (- (neg b) c)) d"},

		{"a + - b", "!4"}, // behind one of 6
		{"a - - b", "!4"},
		{"a `l6` - b", "!7"},
		{"a `r6` - b", "!7"},
		{"a `n6` - b", "!7"},
		{"a == b + - c", "!9"},
		{"a * - b", "!4"}, // and above 6
		{"a `r7` - b", "!7"},
		{"a `n7` - b", "!7"},
		{"a . - b", "!4"},
		{"a `f` - b", "!6"},
		{"- a * - b", "!6"},
		{"- a + - b", "!6"},
		{"a + b * - c == d", "!8"},

		{"- - a + b", "!2"}, // behind another negation
		{"a == - - b", "!7"},
		{"a == - - - b", "!7"},
		{"- - a * b", "!2"},
		{"- - a", "neg (neg a)"}, // no operand of operators
		{"- - - a", "neg (neg (neg a))"},

		{"( - a ) * b", "* [neg a] b"}, // within an NdParen
		{"a * ( - b )", "* a [neg b]"},
		{"a * ( - b * c )", "* a [neg (* b c)]"},
		{"- ( - a ) * b", "neg (* [neg a] b)"},
		{"- ( a + b ) * c", "neg (* [+ a b] c)"},
		{"( - - a ) + b", "+ [neg (neg a)] b"},
		{"( - a `r6` b ) + c", "!6"},

		{"{ - a * b } * c", "* (neg (* a b)) c"}, // as what an NdOps within came to
		{"a * { - b * c }", "* a (neg (* b c))"},
		{"a + { - b . c } * d", "+ a (* (neg (. b c)) d)"},
		{"- { - a * b } * c", "neg (* (neg (* a b)) c)"},
		{"- { a + b } * c", "neg (* (+ a b) c)"},
		{"a == - { - b * c }", "== a (neg (neg (* b c)))"},
		{"{ - a + b } * c", "* (+ (neg a) b) c"},
		{"- { - a * b }", "neg (neg (* a b))"},
		{"{ { - a * b } * c } * d", "* (* (neg (* a b)) c) d"},
	}
	for _, r := range rows {
		checkOrder(t, r[0], expression(r[0]), l, r[1])
	}
	// The same again, whatever a table tells of the - that stands between operands.
	for side := api.SideLeft; side <= api.SideNone; side++ {
		for level := range 10 {
			other := append([]api.Fixity{{Name: "-", Side: side, Level: level}}, l...)
			for _, r := range rows {
				if !strings.Contains(r[0], "a - ") && !strings.Contains(r[0], "b - ") {
					checkOrder(t, r[0], expression(r[0]), other, r[1])
				}
			}
		}
	}
}

// A table tells otherwise of -, the operator, alone.
func TestATableThatTellsOtherwiseOfMinus(t *testing.T) {
	for _, r := range [][3]string{
		{"- right 3", "- a - - b", "- (neg a) (neg b)"},
		{"- right 3", "a - b - c", "- a (- b c)"},
		{"- right 3", "- a + b - c", "- (+ (neg a) b) c"},
		{"- left 9", "- a - b", "neg (- a b)"},
		{"- left 9", "a * b - c", "* a (- b c)"},
		{"- left 9", "a - - b", "!4"},
		{"- none 6", "- a - b", "!4"},
		{"- right 6", "- a - b", "!4"},
		{"- none 5", "- a - - b", "- (neg a) (neg b)"},
		{"- none 5", "a - b - c", "!6"},
		{"- left 0", "- a * b", "neg (* a b)"},
		{"- left 7", "a + - b", "!4"},
	} {
		l := append(holds(r[0]), builtin()...)
		checkOrder(t, r[0]+": "+r[1], expression(r[1]), l, r[2])
	}
}

func TestPatterns(t *testing.T) {
	l := append(builtin(), holds(":< left 4 :> right 4 := none 4 C right 6 - left 6")...)
	for _, r := range [][2]string{
		{"a", "a"},
		{"a : b", ": a b"},
		{"a : b : c", ": a (: b c)"},
		{"a :< b :< c", ":< (:< a b) c"},
		{"a :> b :> c", ":> a (:> b c)"},
		{"a := b", ":= a b"},
		{"a := b := c", "!7"},
		{"a :< b :> c", "!7"},
		{"a : b `C` c : d", ": a (: (C b c) d)"},
		{"a `C` b `C` 1", "C a (C b 1)"},
		{"a `D` b `C` c", "C (D a b) c"},
		{"a :+ b :< c", ":< (:+ a b) c"},
		{"( a : b ) : c", ": ~(: a b) c"},
		{"{ a : b } : c", ": (: a b) c"},
		{"A : B", ": A B"},

		{"a + b", "!2"}, // operators that are no constructors'
		{"a - b", "!2"},
		{"a `f` b", "!2"},
		{"a `quot` b", "!2"},
		{"a : b + c", "!6"},
		{"a + b : c", "!2"},
		{"a := b := c + d", "!7"}, // as it is come to from the left
		{"a + b := c := d", "!2"},
		{"a := b + c := d", "!7"},
		{"a : b ++ c ++ d", "!6"},
		{"a :< b $ c :> d", "!7"},
		{"{ a : b + c } * d", "!8"}, // within first
		{"a * { b : c + d }", "!12"},
		{"( a + b ) * c", "!4"},
	} {
		checkOrder(t, r[0], pattern(r[0]), l, r[1])
	}
	// A name that the table tells of as it does of a constructor is none.
	checkOrder(t, "a table of names", pattern("a `f` b"), holds("f right 5"), "!2")
}

// Operators within come first, from the left, the others behind.
func TestOrderOfFaults(t *testing.T) {
	for _, r := range [][2]string{
		{"a == b == { c == d == e }", "!19"},
		{"{ a == b == c } == d == e", "!9"},
		{"a == b == ( c == d == e )", "!19"},
		{"a == ( b == c == d ) == ( e == f == g )", "!14"},
		{"{ a * - b } == { c == d == e }", "!6"},
		{"a == - { b == c == d }", "!16"},
		{"a * - { b == c == d }", "!15"},
		{"a * - ( b == c == d )", "!15"},
		{"a * - b == c == d", "!4"},
		{"a == b == c * - d", "!7"},
		{"- - a == ( b == c == d )", "!18"},
		{"a * - ( - { b == c == d } * e )", "!19"},
		{"a == b == { { c == d == e } == f == g }", "!21"},
		{"a == { b == c } == { d == e == f }", "!28"},
	} {
		checkOrder(t, r[0], expression(r[0]), builtin(), r[1])
	}
	wrong := func(at int) api.Node {
		n := expression("a == b == c")
		n.Kids[3].At = at
		return n
	}
	no := pattern("a + b")
	no.Kids[1].At = 70
	of := func(kind int, kids ...api.Node) api.Node { return api.Node{Kind: kind, Kids: kids} }
	for i, n := range []api.Node{
		of(api.NdList, wrong(70), wrong(80)),
		of(api.NdApp, expression("a"), wrong(70), wrong(80)),
		of(api.NdLam, no, wrong(80)),
		of(api.NdLet, of(api.NdWhere, bind(wrong(70))), wrong(80)),
		of(api.NdCase, wrong(70), of(api.NdAlt, no, right(wrong(80)))),
		of(api.NdCase, expression("a"), of(api.NdAlt, no, right(wrong(80)))),
		program(bind(wrong(70)), bind(wrong(80))),
		program(bind(expression("a"), bind(wrong(70))), bind(wrong(80))),
		of(api.NdOps, wrong(70), expression("a + b").Kids[1], wrong(80)),
		of(api.NdNeg, wrong(70)),
		of(api.NdOps, of(api.NdNeg, wrong(70)), expression("a + b").Kids[1], wrong(80)),
	} {
		got, f := fixity.Resolve(n, builtin())
		checkFault(t, "tree "+strconv.Itoa(i), got, f, api.Fault{Err: api.ErrFixity, At: 70})
	}
}

// Wherever operators stand, they are brought in order; all else stays.
func TestEverywhere(t *testing.T) {
	name := func(kind int, s string, kids ...api.Node) api.Node { return api.Node{Kind: kind, Name: s, Kids: kids} }
	of := func(kind int, kids ...api.Node) api.Node { return name(kind, "", kids...) }
	one := api.Node{Kind: api.NdInt, Num: 1}
	all := func(e, p api.Node) []api.Node {
		where := of(api.NdWhere, of(api.NdBind, p, right(e)))
		return []api.Node{
			program(name(api.NdEqn, "f", p, p, right(e, where))), program(name(api.NdData, "T", api.Node{Kind: api.NdConDef, Name: "C", Num: 3}), declares(5, "infixr", 3, "%"), of(api.NdBind, p, right(e))),
			right(of(api.NdGuard, e, e), of(api.NdGuard, one, e), where), where,
			of(api.NdApp, e, e, e), of(api.NdNeg, e), of(api.NdLam, p, p, e), of(api.NdLet, where, e), of(api.NdIf, e, e, e), of(api.NdCase, e, of(api.NdAlt, p, right(e))),
			of(api.NdDo, of(api.NdGen, p, e), of(api.NdLets, where), of(api.NdStmt, e)), of(api.NdTuple, e, e), of(api.NdList, e, e), of(api.NdComp, e, of(api.NdGen, p, e), of(api.NdStmt, e)),
			name(api.NdLeft, "+", e), name(api.NdRight, "*", e), of(api.NdParen, e), of(api.NdParen, of(api.NdNeg, e)),
			name(api.NdPCon, "C", p, p), of(api.NdPTuple, p, p), of(api.NdPList, p), name(api.NdPAs, "x", p), of(api.NdPLazy, p),
			of(api.NdList, of(api.NdChar), name(api.NdString, "a + b"), name(api.NdCon, "C"), one),
			of(api.NdPList, of(api.NdPChar), name(api.NdPString, "a : b"), of(api.NdPAny), of(api.NdPInt)),
			name(api.NdOp, "+"), declares(5, "infix", 1, "+"), of(api.NdList), of(api.NdPList),
		}
	}
	e, _ := fixity.Resolve(expression("a + 1 * c"), builtin())
	p, _ := fixity.Resolve(pattern("a : 1 : c"), builtin())
	if told(e) != "+ a (* 1 c)" || told(p) != ": a (: 1 c)" {
		t.Fatalf("%s, %s", told(e), told(p))
	}
	ordered := all(e, p)
	for i, n := range all(expression("a + 1 * c"), pattern("a : 1 : c")) {
		got, f := fixity.Resolve(n, builtin())
		if f != (api.Fault{}) || !syntax.Same(got, ordered[i]) || placesTold(got) != placesTold(ordered[i]) || syntax.Check(got) != api.OK {
			t.Errorf("tree %d: %s, %v, want %s", i, told(got), f, told(ordered[i]))
		}
	}
}

// An application has its left operand's place, a negation, parentheses and all else their own.
func TestPlaces(t *testing.T) {
	for _, r := range [][2]string{
		{"a + b", "0 2 0 4"},
		{"a + b * c", "0 2 0 4 6 4 8"},
		{"a * b + c", "0 6 0 2 0 4 8"},
		{"a - b - c", "0 6 0 2 0 4 8"},
		{"a : b : c", "0 2 0 4 6 4 8"},
		{"- a * b", "0 2 4 2 6"},
		{"- a + b", "0 4 0 2 6"},
		{"a == - b * c", "0 2 0 5 7 9 7 11"},
		{"( a + b ) * c", "0 10 0 2 4 2 6 12"},
		{"a * ( b + c )", "0 2 0 4 6 8 6 10"},
		{"( a ) + ( - b )", "0 6 0 2 8 10 12"},
		{"{ a + b } * c", "2 10 2 4 2 6 12"},
		{"a * { - b * c }", "0 2 0 6 8 10 8 12"},
		{"- { - a * b } * c", "0 4 14 4 6 8 6 10 16"},
		{"- - a", "0 2 4"},
	} {
		n, f := fixity.Resolve(expression(r[0]), builtin())
		if f != (api.Fault{}) || placesTold(n) != r[1] {
			t.Errorf("%s: places %s, %v, want %s", r[0], placesTold(n), f, r[1])
		}
	}
	for _, r := range [][2]string{
		{"a : b", "0 0 4"},
		{"a : b : c", "0 0 4 4 8"},
		{"a `C` b : c", "0 0 0 6 10"},
		{"( a : b ) : c", "0 0 2 2 6 12"},
		{"{ a : b } : c", "2 2 2 6 12"},
	} {
		n, f := fixity.Resolve(pattern(r[0]), builtin())
		if f != (api.Fault{}) || placesTold(n) != r[1] {
			t.Errorf("%s: places %s, %v, want %s", r[0], placesTold(n), f, r[1])
		}
	}
	n := expression("a + b")
	n.At, n.Kids[0].At, n.Kids[1].At, n.Kids[2].At = 5, math.MinInt, -3, math.MaxInt
	got, _ := fixity.Resolve(n, nil)
	if got.At != math.MinInt || got.Kids[0].At != -3 || got.Kids[1].At != math.MinInt || got.Kids[2].At != math.MaxInt {
		t.Errorf("any places: %v", got)
	}
}

// An operator that the table tells of twice holds as it is told first.
func TestATableThatTellsTwice(t *testing.T) {
	l := holds("+ left 6 * left 7 + left 9 * left 1 - right 9 - left 6")
	checkOrder(t, "a + b * c", expression("a + b * c"), l, "+ a (* b c)")
	checkOrder(t, "a - b - c", expression("a - b - c"), l, "- a (- b c)")
	slices.Reverse(l)
	checkOrder(t, "a + b * c", expression("a + b * c"), l, "* (+ a b) c")
	checkOrder(t, "a - b - c", expression("a - b - c"), l, "- (- a b) c")
}

// All sides and levels about the edges, wherever the entry stands, and whether it is asked for or not.
func TestTablesThatAreNone(t *testing.T) {
	numbers := []int{math.MinInt, -2, -1, 0, 1, 2, 3, 4, 5, 8, 9, 10, 11, 1 << 32, math.MaxInt}
	nodes := []api.Node{expression("a % b"), expression("a"), pattern("a + b"), expression("a == b == c"), program(), tall(256)}
	for _, side := range numbers {
		for _, level := range numbers {
			good := 1 <= side && side <= 3 && 0 <= level && level <= 9
			odd := api.Fixity{Name: "%", Side: side, Level: level}
			for _, l := range [][]api.Fixity{{odd}, append(builtin(), odd), append([]api.Fixity{odd}, builtin()...), append(holds("% left 1"), odd, odd)} {
				for i, n := range nodes {
					got, f := fixity.Resolve(n, l)
					if good != (f.Err != api.ErrArg) {
						t.Errorf("node %d, side %d, level %d: %v", i, side, level, f)
					}
					if !good {
						checkFault(t, "a table that is none", got, f, api.Fault{Err: api.ErrArg})
					}
				}
			}
		}
	}
	// Names are not asked whether they are any.
	got, f := fixity.Resolve(expression("a + b * c"), append(holds("= left 1 let none 2"), api.Fixity{Side: 1}, builtin()[15], api.Fixity{Name: "+", Side: 1, Level: 6}))
	if f != (api.Fault{}) || told(got) != "+ a (* b c)" {
		t.Errorf("odd names: %v, %v", told(got), f)
	}
}

// Nodes that may not be, with a table that is none too.
func TestResolveOfWrongNodes(t *testing.T) {
	of := func(kind int, kids ...api.Node) api.Node { return api.Node{Kind: kind, Kids: kids, At: 9} }
	a, plus, p := expression("a"), expression("a + b").Kids[1], pattern("a")
	bad := plus
	bad.Name = "="
	wrong := []api.Node{
		{}, of(-1), of(45), of(api.NdOps), of(api.NdOps, a), of(api.NdOps, a, plus), of(api.NdOps, plus, a), of(api.NdOps, a, a, a), of(api.NdOps, a, plus, a, plus), of(api.NdOps, a, plus, p), of(api.NdOps, a, bad, a),
		of(api.NdPOps), of(api.NdPOps, p), of(api.NdPOps, p, plus), of(api.NdPOps, p, plus, a), of(api.NdNeg), of(api.NdNeg, a, a), of(api.NdNeg, p), of(api.NdPOps, of(api.NdNeg, p), plus, p),
		of(api.NdOps, of(api.NdNeg), plus, a), {Kind: api.NdOps, Name: "x", Kids: []api.Node{a, plus, a}}, {Kind: api.NdInt, Num: -1}, {Kind: api.NdOp}, {Kind: api.NdOp, Name: "let"},
		of(api.NdList, expression("a == b == c"), of(45)), of(api.NdList, expression("a == b == c"), of(api.NdOps, a)),
	}
	none := []api.Fixity{{Name: "+", Side: 4, Level: 6}}
	for _, l := range [][]api.Fixity{nil, builtin(), none} {
		for i, n := range wrong {
			got, f := fixity.Resolve(n, l)
			checkFault(t, "wrong "+strconv.Itoa(i), got, f, api.Fault{Err: api.ErrArg})
		}
		for i, n := range []api.Node{nested(257), of(45, nested(256)), of(api.NdOps, nested(256), plus, a), of(api.NdOps, expression("a == b == c"), plus, nested(256)), many(1 << 20)} {
			got, f := fixity.Resolve(n, l)
			checkFault(t, "long "+strconv.Itoa(i), got, f, api.Fault{Err: api.ErrLong})
		}
	}
}

func TestAll(t *testing.T) {
	n := program(declares(5, "infixr", 1, "+", "%"), bind(expression("a + b + c * d % e")), declares(60, "infixl", 2, "*"), bind(caseOfOperators()))
	got, f := fixity.All(n)
	if f != (api.Fault{}) {
		t.Fatal(f)
	}
	if e := got.Kids[1].Kids[1].Kids[0]; told(e) != "+ a (+ b (% (* c d) e))" {
		t.Errorf("All: %s", told(e))
	}
	l, _ := fixity.Table(n)
	want, f := fixity.Resolve(n, l)
	if f != (api.Fault{}) || !syntax.Same(got, want) || placesTold(got) != placesTold(want) {
		t.Errorf("All: %s, Resolve: %s, %v", told(got), told(want), f)
	}
	for _, r := range []struct {
		what string
		n    api.Node
		want api.Fault
	}{
		{"what can't be", program(bind(expression("a == b == c"))), api.Fault{Err: api.ErrFixity, At: 7}},
		{"what can't be any more", program(bind(expression("a + b == c")), declares(5, "infix", 4, "+")), api.Fault{Err: api.ErrFixity, At: 6}},
		{"what can be now", program(bind(expression("a == b == c")), declares(5, "infixl", 4, "==")), api.Fault{}},
		{"inner declarations", program(bind(expression("a == b == c"), declares(5, "infixl", 4, "=="))), api.Fault{Err: api.ErrFixity, At: 7}},
		{"negation is left, 6", program(bind(expression("- a * b == c")), declares(5, "infix", 4, "-")), api.Fault{}},
		{"patterns", program(api.Node{Kind: api.NdBind, Kids: []api.Node{pattern("a + b"), right(expression("c"))}}), api.Fault{Err: api.ErrFixity, At: 2}},
		{"too deep", program(bind(tall(253))), api.Fault{Err: api.ErrLong}},
		{"no program", expression("a"), api.Fault{Err: api.ErrArg}},
	} {
		got, f := fixity.All(r.n)
		checkFault(t, r.what, got, f, r.want)
	}
}

// caseOfOperators is a case whose patterns have operators.
func caseOfOperators() api.Node {
	alt := api.Node{Kind: api.NdAlt, Kids: []api.Node{pattern("a : b : c"), right(expression("a + b"))}}
	return api.Node{Kind: api.NdCase, Kids: []api.Node{expression("a * b"), alt}}
}

// row is an NdOps, or NdPOps, of so many operators, the one at i being what is told.
func row(operators int, expression bool, name func(i int) string) api.Node {
	n := api.Node{Kind: api.NdPOps, Kids: make([]api.Node, 0, 2*operators+1)}
	operand := api.Node{Kind: api.NdPVar, Name: "x"}
	if expression {
		n.Kind, operand.Kind = api.NdOps, api.NdVar
	}
	n.Kids = append(n.Kids, operand)
	for i := range operators {
		n.Kids = append(n.Kids, api.Node{Kind: api.NdOp, Name: name(i), At: i}, operand)
	}
	return n
}

func always(name string) func(int) string { return func(int) string { return name } }

// tall is a row that, once it is in order, is one deeper than it has operators.
func tall(operators int) api.Node { return row(operators, true, always("+")) }

func deepness(n api.Node) int {
	deep := 0
	for _, k := range n.Kids {
		deep = max(deep, deepness(k))
	}
	return deep + 1
}

func around(n api.Node, times int) api.Node {
	for range times {
		n = api.Node{Kind: api.NdParen, Kids: []api.Node{n}, At: 5}
	}
	return n
}

// What is nested too deep only once it is in order.
func TestTooDeepOnceInOrder(t *testing.T) {
	l := append(builtin(), holds(":< left 5")...)
	for _, r := range []struct {
		what string
		make func(operators int) api.Node
		more int // how much deeper than its operators
	}{
		{"left", tall, 1},
		{"right", func(n int) api.Node { return row(n, true, always(":")) }, 1},
		{"untold", func(n int) api.Node { return row(n, true, always("f")) }, 1},
		{"patterns to the left", func(n int) api.Node { return row(n, false, always(":<")) }, 1},
		{"patterns to the right", func(n int) api.Node { return row(n, false, always(":")) }, 1},
		{"in parentheses", func(n int) api.Node { return around(tall(n), 100) }, 101},
		{"in a row", func(n int) api.Node {
			x := tall(100)
			x.Kids[0] = row(n-100, true, always(":"))
			return x
		}, 1},
		{"a negation", func(n int) api.Node {
			x := row(n, true, always("*"))
			x.Kids[0] = api.Node{Kind: api.NdNeg, Kids: []api.Node{x.Kids[0]}}
			return x
		}, 2},
		{"a deep operand, first", func(n int) api.Node {
			x := tall(n)
			x.Kids[0] = nested(100)
			return x
		}, 100},
		{"a deep operand, last", func(n int) api.Node {
			x := row(n, true, always(":"))
			x.Kids[2*n] = nested(100)
			return x
		}, 100},
		{"rising", func(n int) api.Node {
			return row(n, true, func(i int) string { return []string{":", "$"}[i/(n-1)] })
		}, 1},
	} {
		most := api.MaxDeep - r.more
		n := r.make(most)
		got, f := fixity.Resolve(n, l)
		if f != (api.Fault{}) || deepness(got) != api.MaxDeep || syntax.Check(got) != api.OK {
			t.Errorf("%s: %d deep, %v", r.what, deepness(got), f)
		}
		n = r.make(most + 1)
		if e := syntax.Check(n); e != api.OK {
			t.Errorf("%s: %v as it is handed in", r.what, e)
		}
		got, f = fixity.Resolve(n, l)
		checkFault(t, r.what, got, f, api.Fault{Err: api.ErrLong})
	}
}

// What can't be is told ahead of what is too deep, whichever is come to first.
func TestTooDeepAndWhatCannotBe(t *testing.T) {
	wrong := expression("a == b == c")
	of := func(kids ...api.Node) api.Node { return api.Node{Kind: api.NdList, Kids: kids} }
	for i, n := range []api.Node{of(tall(300), wrong), of(wrong, tall(300)), of(of(tall(300)), of(wrong))} {
		got, f := fixity.Resolve(n, builtin())
		checkFault(t, "list "+strconv.Itoa(i), got, f, api.Fault{Err: api.ErrFixity, At: 7})
	}
	for _, name := range []string{"+", ":"} {
		n := row(300, true, func(i int) string { return []string{name, "=="}[i/298] })
		got, f := fixity.Resolve(n, builtin())
		checkFault(t, "at the end of a row of "+name, got, f, api.Fault{Err: api.ErrFixity, At: 299})
	}
}

// Rows as long as there may be: calls may not be nested as deep as they are long.
func TestLongRows(t *testing.T) {
	defer debug.SetMaxStack(debug.SetMaxStack(1 << 22))
	const most = 1<<19 - 1 // operators, so that there are 2^20 nodes
	l := append(builtin(), holds("r1 right 2 r2 right 3 n none 4")...)
	for _, r := range []struct {
		what string
		name func(i int) string
		want api.Fault
	}{
		{"left", always("+"), api.Fault{Err: api.ErrLong}},
		{"right", always(":"), api.Fault{Err: api.ErrLong}},
		{"right by turns", func(i int) string { return []string{"||", "&&"}[i%2] }, api.Fault{Err: api.ErrLong}},
		{"right, then higher", func(i int) string { return []string{"||", "&&"}[i/(1<<18)] }, api.Fault{Err: api.ErrLong}},
		{"left, right at the end", func(i int) string { return []string{"+", ":"}[i/(most-1)] }, api.Fault{Err: api.ErrLong}},
		{"right, a clash at the end", func(i int) string { return []string{":", "=="}[i/(most-2)] }, api.Fault{Err: api.ErrFixity, At: most - 1}},
		{"left, a clash at the end", func(i int) string { return []string{"+", "=="}[i/(most-2)] }, api.Fault{Err: api.ErrFixity, At: most - 1}},
	} {
		got, f := fixity.Resolve(row(most, true, r.name), l)
		checkFault(t, r.what, got, f, r.want)
	}
	got, f := fixity.Resolve(row(most+1, true, always(":")), l)
	checkFault(t, "too many nodes", got, f, api.Fault{Err: api.ErrLong})

	// Eighty of a level, each of eighty of the next, and so on, are not too deep.
	n := row(most, true, func(i int) string {
		switch {
		case (i+1)%6400 == 0:
			return "$"
		case (i+1)%80 == 0:
			return "++"
		}
		return "+"
	})
	got, f = fixity.Resolve(n, l)
	if f != (api.Fault{}) || deepness(got) > api.MaxDeep {
		t.Errorf("levels within levels: %d deep, %v", deepness(got), f)
	}
}

// A table as long as a row: each operator is found at once.
func TestLongTables(t *testing.T) {
	const most = 200000
	l := make([]api.Fixity, most)
	for i := range l {
		l[i] = api.Fixity{Name: "f" + strconv.Itoa(i), Side: api.SideRight, Level: 3}
	}
	n := row(most, true, func(i int) string { return "f" + strconv.Itoa(most-1-i) })
	got, f := fixity.Resolve(n, l)
	checkFault(t, "right", got, f, api.Fault{Err: api.ErrLong})
	l[0].Side = api.SideLeft
	got, f = fixity.Resolve(n, l)
	checkFault(t, "left at the end", got, f, api.Fault{Err: api.ErrFixity, At: most - 1})
}
