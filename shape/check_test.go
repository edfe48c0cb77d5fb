package shape_test

import (
	"math"
	"slices"
	"strings"
	"testing"

	"thunkmill/api"
	"thunkmill/shape"
)

// types are declared ahead of what tests look into.
const types = "data T = A x y | B | C x\ndata D = Pair x y | Three x y z\n"

// patternPlaces have a % wherever a tree allows a pattern.
var patternPlaces = []string{
	"f (%) = 1", "f x (%) = 1", "f (%) x = 1", "x + (%) = 1", "(%) + x = 1", "% = 1",
	"f = \\ (%) -> 1", "f = \\ x (%) y -> 1", "f = case 1 of % -> 1", "f = case 1 of { x -> 2 ; % -> 1 }", "f = case 1 of % | 1 -> 2",
	"f = let g (%) = 1 in 2", "f = let { x = 1 ; % = 2 } in 3", "f = 1 where g (%) = 1", "f = 1 where { x = 2 ; % = 3 }", "f | 1 = 2 where % = 3", "f = case 1 of x -> 1 where % = 3",
	"f = do { % <- 1 ; 2 }", "f = do { let { % = 1 } ; 2 }", "f = [ 1 | % <- 2 ]", "f = [ 1 | x <- 2, let { g (%) = 1 } ]",
	"f [%] = 1", "f [x, %] = 1", "f (x, %) = 1", "f (%, x, y, z) = 1", "f (x@(%)) = 1", "f (~(%)) = 1", "f ((%) : x) = 1", "f (x : (%)) = 1",
	"f (C (%)) = 1", "f (A x (%)) = 1", "f (A (%) x) = 1", "f (Three x [y, (%)] z) = 1",
}

// expressionPlaces have a % wherever a tree allows an expression.
var expressionPlaces = []string{
	"f = %", "f x = %", "x = y where y = %", "f | % = 1", "f | 1 = %", "f | 1 = 2 | % = 3", "f x | 1 = 2 | 3 = %",
	"f = g (%)", "f = (%) 1", "f = g 1 (%)", "f = 1 + (%)", "f = (%) + 1", "f = - (%)", "f = \\ x -> %", "f = let x = % in 1", "f = let x = 1 in %",
	"f = if % then 1 else 2", "f = if 1 then % else 2", "f = if 1 then 2 else %", "f = case % of x -> 1", "f = case 1 of x -> %", "f = case 1 of x | % -> 1", "f = case 1 of x | 1 -> %",
	"f = do { % ; 1 }", "f = do { x <- % ; 1 }", "f = do { let { x = % } ; 1 }", "f = do %", "f = (%, 1)", "f = (1, 2, 3, %)", "f = [%]", "f = [1, %]",
	"f = [ % | 1 ]", "f = [ 1 | % ]", "f = [ 1 | x <- % ]", "f = [ 1 | x <- 2, % ]", "f = [ 1 | let { x = % } ]", "f = ((%) +)", "f = (+ (%))", "f = ((%))", "f = A (%)",
}

// checkText asks for a fault of that error at a text's mark; for none, if it is OK.
func checkText(t *testing.T, marked string, e api.Errno, read func(t *testing.T, text string) api.Node) {
	t.Helper()
	text, want := marked, api.Fault{}
	if e != api.OK {
		text, want.At = unmarked(t, marked)
		want.Err = e
	}
	checkFault(t, text, read(t, text), want)
}

// P9.3: at each place of a pattern.
func TestPatterns(t *testing.T) {
	right := []string{"A x y", "A (A x y) B", "B", "C x", "C B", "Pair 1 'a'", "Three x y z", "True", "False", "Nil", "Cons x y", "(:) x y", "x : y", "x : y : Nil", "x `A` y", "x `Pair` y", "Unit", "()", "Tup2 x y", "Tup3 x y z", "Tup4 x y z u", "(x, y, z)", "[]", "[B]", "x", "_", "\"Zoe\""}
	few := []string{"»A", "»A x", "»C", "»Pair", "»Three x y", "»Cons", "»Cons x", "»Tup2", "»Tup2 x", "»Tup3 x y", "»Tup4 x y z"}
	much := []string{"»A x y z", "»B x", "»C x y", "»Pair x y z", "»Three x y z u", "»True x", "»Nil x", "»Cons x y z", "»Unit x", "»Tup2 x y z", "»Tup4 x y z u v", "»x `Three` y", "»x `Tup3` y", "»x `C` y", "»x `Unit` y"}
	none := []string{"»Zoe", "»Zoe x", "»Zoe x y", "»T", "»D x y", "»Bool", "»List x", "»Tup1 x", "»Tup5 x y z u v", "»x :+ y", "»(:+) x y", "»x `Zoe` y"}
	for _, place := range patternPlaces {
		for _, p := range right {
			checkText(t, types+strings.Replace(place, "%", p, 1), api.OK, parsed)
		}
		for _, p := range append(few, much...) {
			checkText(t, types+strings.Replace(place, "%", p, 1), api.ErrShape, parsed)
		}
		for _, p := range none {
			checkText(t, types+strings.Replace(place, "%", p, 1), api.ErrScope, parsed)
		}
	}
}

// P9.3: at each place of an expression, where any number of arguments is right.
func TestExpressions(t *testing.T) {
	right := []string{"A", "A 1", "A 1 2", "A 1 2 3", "B", "B 1", "C", "C 1 2", "Three 1", "True", "True 1", "Cons 1", "Cons 1 2 3", "(:)", "(:) 1", "(:) 1 2 3", "1 : 2", "1 `A` 2", "1 `B` 2", "1 `Unit` 2", "Unit", "()", "() 1", "Tup2", "Tup3 1", "Tup4 1 2 3 4 5", "Nil 1", "\"Zoe\"", "zoe"}
	none := []string{"»Zoe", "»Zoe 1", "A »Zoe", "B 1 2 »Zoe", "»T", "»D", "»Bool", "»List 1", "»Tup1", "»Tup5 1", "1 »:+ 2", "»(:+)", "1 »`Zoe` 2"}
	for _, place := range expressionPlaces {
		for _, e := range right {
			checkText(t, types+strings.Replace(place, "%", e, 1), api.OK, parsed)
		}
		for _, e := range none {
			checkText(t, types+strings.Replace(place, "%", e, 1), api.ErrScope, parsed)
		}
	}
}

// P9.3: operators of constructors in rows and sections are not asked for; their operands are.
func TestOperatorsAreNotAskedFor(t *testing.T) {
	for _, text := range []string{
		"f = 1 :+ 2", "f = 1 `Zoe` 2", "f = 1 :+ 2 `Zoe` 3 : 4", "f (x :+ y) = 1", "f (x `Zoe` y) = 1", "f (x `Three` y `B` z) = 1", "x :+ y = 1",
		"f = (1 :+)", "f = (:+ 1)", "f = (1 `Zoe`)", "f = (`Zoe` 1)", "f = (`B` 1)", "infixl 5 :+, `Zoe`", "infixr 5 `B`",
	} {
		checkText(t, types+text, api.OK, rows)
	}
	for _, text := range []string{"f = (1 :+)", "f = (:+ 1)", "f = (1 `Zoe`)", "f = (`Zoe` 1)", "infixl 5 :+, `Zoe`"} {
		checkText(t, types+text, api.OK, parsed)
	}
	for _, marked := range []string{"f = »Zoe :+ 2", "f = 1 :+ »Zoe", "f = 1 : »(:+)", "f (»Zoe :+ y) = 1", "f (x :+ »Zoe) = 1", "f = (»Zoe :+)", "f = (:+ »Zoe)", "f = (`Zoe` »Zow)"} {
		checkText(t, types+marked, api.ErrScope, rows)
	}
	for _, marked := range []string{"f (x :+ (»A x)) = 1", "f (»True x : y) = 1", "f ((»A x) `Zoe` Zow) = 1"} {
		checkText(t, types+marked, api.ErrShape, rows)
	}
}

// P9.3: of several faults the first from the left, a node ahead of its kids.
func TestFirstFault(t *testing.T) {
	for _, marked := range []string{
		"f (»Zoe) (A x) = 1", "f (»Zoe (A x)) = 1", "f (»Zoe (Zow)) = 1", "f (A (»Zoe) (A x)) = 1", "f [»Zoe, A x] = 1", "f = »Zoe\ng (A x) = 1", "f (x@(»Zoe)) (~(A x)) = 1",
		"f = \\ x -> »Zoe (\\ (A x) -> 1)", "f = [ »Zoe | (A x) <- 1 ]", "f = [ »Zoe | Zow ]", "f = »Zoe Zow", "f = A »Zoe Zow", "f = (»Zoe, Zow)", "f | »Zoe = Zow", "f = »Zoe where g = Zow",
		"f = case »Zoe of A x -> 1", "f = do { x <- »Zoe ; Zow }", "f = if 1 then »Zoe else Zow", "f = let x = »Zoe in Zow",
		"f = Zow »:+ 2", // an operator is ahead of its operands, once it is brought in order
	} {
		checkText(t, types+marked, api.ErrScope, parsed)
	}
	for _, marked := range []string{
		"f (»A x) (Zoe) = 1", "f (»A (Zoe)) = 1", "f (»A (A x)) = 1", "f (»A x) (A x y z) = 1", "f (A (»A x) (Zoe)) = 1", "f [»A x, Zoe] = 1", "f (»A x) = Zoe", "f (»B x) = 1\ng = Zoe",
		"f = \\ (»A x) -> Zoe", "f = [ 1 | (»A x) <- Zoe ]", "f = case 1 of { »A x -> Zoe ; Zow -> 1 }", "f = do { »A x <- Zoe ; Zow }", "f = let (»A x) = Zoe in Zow", "f = 1 where { g (»A x) = Zoe }", "f (»Three x y) | Zoe = 1",
	} {
		checkText(t, types+marked, api.ErrShape, parsed)
	}
}

// P9.3: data may stand behind what asks for its constructors; one of an inner block tells of none.
func TestWhereDataStands(t *testing.T) {
	checkText(t, "f (A x y) = B\n"+types, api.OK, parsed)
	checkText(t, "f (»A x) = B\n"+types, api.ErrShape, parsed)
	checkText(t, "f = Zoe\ndata Z = Zoe x", api.OK, parsed)
	checkText(t, "f = »Zoe where { data Z = Zoe x }", api.ErrScope, parsed)
	checkText(t, "data Z = Zoe x\nf (Zoe x) = 1 where { data Z = Zoe | Zoe x y }", api.OK, parsed)
}

// P9.3: the chapter's examples, and constructors of the most parts.
func TestExamplesOfCheck(t *testing.T) {
	checkText(t, "data T = A x y\nf (»A x) = x", api.ErrShape, parsed)
	checkText(t, "f (»C) = 1", api.ErrScope, parsed)
	names := strings.Repeat(" x", 31)
	checkText(t, "data T = A x"+names+"\nf (A x"+names+") = A x", api.OK, parsed)
	checkText(t, "data T = A x"+names+"\nf (»A"+names+") = 1", api.ErrShape, parsed)
	checkText(t, "data T = A x"+names+"\nf (»A x x"+names+") = 1", api.ErrShape, parsed)
}

// P9.3: no number of parts but the right one, of each constructor.
func TestEachNumberOfParts(t *testing.T) {
	head := program(data(5, "T", "P0", "P1", "P2", "P3", "P4", "P5"))
	l, _ := shape.Cons(head)
	for _, c := range l {
		for parts := range 40 {
			p := api.Node{Kind: api.NdPCon, Name: c.Name, At: 31, Kids: slices.Repeat([]api.Node{{Kind: api.NdPAny}}, parts)}
			want := api.Fault{}
			if parts != c.Arity {
				want = api.Fault{Err: api.ErrShape, At: 31}
			}
			checkFault(t, c.Name, program(bind(p, variable("x")), head.Kids[0]), want)
		}
	}
}

// P9.3: a fault's place is that of the node, whatever it is.
func TestPlacesOfFaults(t *testing.T) {
	checkText(t, "»Zoe = 1", api.ErrScope, parsed)
	checkText(t, "»True x = 1", api.ErrShape, parsed)
	for _, at := range []int{0, 1, -1, math.MinInt, math.MaxInt, 65536} {
		p := api.Node{Kind: api.NdPCon, Name: "Cons", At: at}
		checkFault(t, "a pattern", program(bind(p, api.Node{Kind: api.NdCon, Name: "Zoe", At: 9})), api.Fault{Err: api.ErrShape, At: at})
		e := api.Node{Kind: api.NdCon, Name: "Zoe", At: at}
		checkFault(t, "an expression", program(bind(api.Node{Kind: api.NdPAny}, e)), api.Fault{Err: api.ErrScope, At: at})
	}
}

// P9.3: as deep as a tree may be.
func TestDeepConstructors(t *testing.T) {
	of := func(name string) api.Node {
		return program(bind(lazily(api.Node{Kind: api.NdPCon, Name: name, At: 41}, 253), variable("x")))
	}
	checkFault(t, "deep, right", of("Nil"), api.Fault{})
	checkFault(t, "deep, none", of("Zoe"), api.Fault{Err: api.ErrScope, At: 41})
	checkFault(t, "deep, too few", of("Cons"), api.Fault{Err: api.ErrShape, At: 41})
}
