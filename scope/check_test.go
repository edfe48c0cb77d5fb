package scope_test

import (
	"math"
	"strings"
	"testing"

	"thunkmill/api"
	"thunkmill/prim"
	"thunkmill/scope"
	"thunkmill/shape"
)

// P10.1: the chapter's examples.
func TestExamples(t *testing.T) {
	checkMarked(t, api.ErrScope, "f x = »y", "f x »x = 1", "f = 1; »f = 2", "f 1 = 2; g = 1; »f 2 = 3")
	checkMarked(t, api.ErrShape, "f 1 = 2; »f 1 2 = 3")
	checkFine(t, "f x = let y = x in g y where g z = z", "f l = [ x | x <- l, x ]")
}

// P10.1: ordinary programs whose names are all there.
func TestFine(t *testing.T) {
	checkFine(t,
		"", "x = 1", "x = x", "f x = f x", "f = g\ng = h\nh = f", "f x = g x 1\ng x y = add x y",
		"f 0 = 1\nf 1 = 2\nf n = f n", "x + y = add x y\nf = 1 + 2", "(+) x y = y + x", "x `op` y = op y x\nf = 1 `op` 2",
		"(a, b) = (b, a)", "[a, b@(c, d)] = [d, c, b, a]", "(x : xs) = xs", "Cons x ~(Cons y _) = add x y",
		"data T = A x | B\nf (A x) = x\nf B = 1", "infixl 3 %%\nx %% y = x", "f = 'f' where g = \"unknown\"",
		"f x | x = 1 | g = 2 where g = x", "f = case 1 of { x | x -> 1 ; y -> y }", "f = \\ x y -> \\ z -> x y z",
		"f = do { x <- getc ; let { y = x } ; putc y ; ret x }", "f = if True then f else - f", "f = (f, [f, f], (f +), (+ f))\nx + y = (x)", "f = ()", "f = []",
		"main = bind (putc (chr 104)) (\\ u -> exit 0)",
	)
}

// uses have a ? at each place where x is there, a % at each where it is not.
var uses = []string{
	// A program's definitions stand everywhere in it.
	"x = ?\ng = ?", "g = ?\nx = ?", "g = ?\nx 1 = ?\nx 2 = ?\nh = let y = ? in ?", "(y, x) = ?\ng = ?", "g y = ? where h = ?\n[x@y1] = ?", "g = (\\ y -> ?) ?\nx = 1", "g = ?\nA x = 1\ndata A = A u",
	// An equation's patterns in its own right side.
	"f x = ?\ng = %", "f x = ?\nf y = %", "f y = %\nf x = ?\nf z = %", "f y x z = ?", "y + x = ?\ng = %", "x + y = ?", "x `f` y = ?",
	"f x | ? = ? | ? = ? where { y = ? ; z u = ? }\ng = %",
	// Each kind of pattern.
	"f (x@1) = ?", "f (x@(y, z)) = ?", "f (y@x) = ?", "f (y@(z, x)) = ?", "f (~x) = ?", "f ~(y, x) = ?", "f ((x)) = ?", "f (x : y) = ?", "f (y : z : x) = ?", "f [y, x] = ?", "f (Cons y x) = ?", "f (u, y, z, x) = ?", "f 1 'a' \"x\" _ = %", "f [] () = %",
	// A where in all of its right side, not in the one beside it.
	"f | ? = ? | ? = ? where { x = ? ; z w = ? }", "f y | ? = ? where { z = ? ; x 1 = ? ; x 2 = ? }\nf y = %", "f y = ? where (y1, x) = ?\nf y | % = % where z = %", "f = % where { y = ? where { x = ? } ; z = % }", "f = ? where { y = ? where { z = ? } ; x = ? }",
	"y = ? where x = ?\nz = %", "(y, z) = ? where x = ?\nu = %",
	// A let in its declarations and its expression.
	"f = let { x = ? ; y = ? } in ?\ng = %", "f = let { y = ? ; x y = ? } in ?", "f = g (let x = ? in ?) % where g = %", "f = let { y = % } in let { x = ? } in ?", "f = let { y = let { x = ? } in ? } in %", "f = let { (x, y) = ? } in ?", "f = let { } in %",
	// A lambda.
	"f = g (\\ x -> ?) % where g = %", "f = \\ y x -> ?", "f = \\ x y -> \\ z -> ?", "f = \\ y -> (% (\\ x -> ?) %)", "f = \\ (y, x) -> ?",
	// An alternative.
	"f = case % of { x -> ? ; y -> % }", "f = case % of { y -> % ; x -> ? ; z -> % }", "f = case % of { (y, x) | ? -> ? | ? -> ? where { z = ? } ; y | % -> % where { z = % } }", "f = case % of { y -> ? where { x = ? } ; z -> % }",
	// Statements of a do: a generator in what follows, declarations in themselves, too.
	"f = do { % ; y <- % ; x <- % ; ? ; z <- ? ; let { w = ? } ; ? }\ng = %", "f = do { x <- % ; ? }", "f = do { (y, x) <- % ; ? ; ? }", "f = do { y <- do { x <- % ; ? } ; % }", "f = do { x <- % ; do { y <- ? ; ? } ; ? }",
	"f = do { % ; let { y = % } ; let { x = ? ; z u = ? } ; ? ; ? }\ng = %", "f = do { let { x = ? } ; ? }", "f = do { y <- let { x = ? } in ? ; % }", "f = do { let { y = % where { z = % } } ; % }", "f = do { let { y = ? where { x = ? } ; z = % } ; % }",
	// Parts of a comprehension: likewise, and its first expression is behind all of them.
	"f = [ ? | %, y <- %, x <- %, ?, z <- ?, let { w = ? } ]\ng = %", "f = [ ? | x <- % ]", "f = [ ? | x <- %, y <- ? ]", "f = [ ? | y <- %, (z, x) <- %, ? ]", "f = [ % | y <- [ ? | x <- % ] ]", "f = [ [ ? | y <- ? ] | x <- % ]", "f = [ [ ? | x <- %, ? ] | y <- %, % ]",
	"f = [ ? | %, let { y = % }, let { x = ? ; z = ? }, ?, z <- ? ]\ng = %", "f = [ ? | let { x = ? } ]", "f = [ % | y <- let { x = ? } in ?, % ]",
	// Nowhere at all, in each kind of expression.
	"f = % % %", "f = if % then % else %", "f = (%, %, %, %)", "f = [%, %]", "f = - (%)", "f = (((%)))", "f = (\\ y -> %) (let y = % in %)", "f = (% `add`) (`add` %)", "f | % = % | % = %", "f = do { % ; % }", "f = [ % | %, % ]", "f = add (% `sub` %) %",
}

// P10.1: at each place of each text a name is used, all others having none.
func TestEachUse(t *testing.T) {
	others := strings.NewReplacer("?", "1", "%", "1")
	there, missing := 0, 0
	for _, text := range uses {
		for i := range len(text) {
			want := api.Fault{}
			switch text[i] {
			case '?':
				there++
			case '%':
				missing++
				want = api.Fault{Err: api.ErrScope, At: i}
			default:
				continue
			}
			used := others.Replace(text[:i]) + "x" + others.Replace(text[i+1:])
			checkFault(t, used, parsed(t, used), want)
		}
	}
	if there < 130 || missing < 100 {
		t.Errorf("%d places where x is there, %d where it is not", there, missing)
	}
}

// P10.1: an inner name hides an outer one; behind its block the outer one is there.
func TestHiding(t *testing.T) {
	checkFine(t,
		"x = 1\nf x = x\ng = x", "x = 1\nf = let x = x in x\ng = x", "f x = g (\\ x -> x) x\ng = f", "f x = case x of { x -> x ; y -> x }", "f x = x where x = 1\ng = f", "f x = do { x <- x ; let { x = x } ; x }", "f x = [ x | x <- x, let { x = x }, x <- x, x ]",
		"f f = f\ng = f", "f x = let { x x = x } in x", "f x = (x, \\ x -> x, x)",
	)
	// Two of a name in patterns within one another, or behind one another, are no fault: they do not stand together.
	checkFine(t, "f x = \\ x -> \\ x -> x", "f = do { x <- 1 ; x <- 2 ; x }", "f = [ 1 | x <- 1, x <- 2 ]", "f x y = 1\ng y x = 2", "f x = 1\nf x = 2", "f = case 1 of { x -> 1 ; x -> 2 }", "f = do { let { x = 1 } ; let { x = 2 } ; x }", "f x = 1 where { x = 2 }", "f = 1 where { f = 2 }", "f = let { f = let { f = 1 } in f } in f", "f = do { (x, y) <- 1 ; (y, x) <- 2 ; x }")
}

// P10.1: each primitive is there, whoever defines its name anew.
func TestPrimitives(t *testing.T) {
	for _, p := range prim.Names() {
		checkFine(t, "f = "+p, "f x = let y = "+p+" in y", p+" = "+p, p+" x = x\nf = "+p, "("+p+", y) = 1\nf = "+p, "f "+p+" = "+p+"\ng = "+p, "f = \\ "+p+" -> "+p, "f = let { "+p+" = 1 } in "+p+"\ng = "+p, "f = (`"+p+"` 1) (1 `"+p+"`)", "f = 1 `"+p+"` 2", "f = do { "+p+" <- 1 ; "+p+" }")
		checkMarked(t, api.ErrScope, p+" = 1\n»"+p+" = 2", "f "+p+" »"+p+" = 1", "f = »"+p+"'", "f = "+p+" »x")
		checkMarked(t, api.ErrShape, p+" 1 = 1\n»"+p+" 1 2 = 2")
	}
	// What the Prelude defines, operators and words like those of primitives are none.
	for _, name := range []string{"map", "putStrLn", "print", "not", "fst", "readInt", "return", "getChar", "add2", "ad", "div", "mod", "neg", "negate", "main", "if'", "otherwise", "undefined"} {
		checkMarked(t, api.ErrScope, "f = »"+name)
	}
	for _, op := range []string{"+", "-", "*", "==", "<", ">>=", "++", ".", "$", "&&"} {
		checkMarked(t, api.ErrScope, "f = 1 »"+op+" 2", "f = »("+op+")")
		checkFine(t, "f = 1 "+op+" 2\nx "+op+" y = x", "f g = ("+op+") where { x "+op+" y = g }")
	}
}

// P10.1: names that are defined twice in one list.
func TestDefinedTwice(t *testing.T) {
	for _, list := range []string{
		"f 1 = 2 ; g 1 = 2 ; »f 2 = 3", "f 1 = 2 ; g = 2 ; »f 2 = 3", "f 1 = 2 ; g 1 = 2 ; »f 1 2 = 3", // equations that stand apart
		"f = 1 ; »f = 2", "f = 1 ; g = 2 ; »f = 3", "f = 1 ; »f 1 = 2", "f 1 = 2 ; »f = 3", "f 1 = 2 ; »f = 3 ; f 2 = 4", "f 1 = 2 ; f 2 = 3 ; »f = 4", "f = 1 ; »f 1 = 2 ; f 2 = 3",
		"»(x, x) = 1", "»[x, y, x] = 1", "»(x@x) = 1", "»(x@(y, ~x)) = 1", "»(x, y@(z, x)) = 1", "»(x, x, x) = 1", "»(x : y : x) = 1",
		"(x, y) = 1 ; »x = 2", "x = 1 ; »(y, x) = 2", "x = 1 ; »(x, y) = 2", "(x, y) = 1 ; »(z, y) = 2", "(x, y) = 1 ; »y 1 = 2", "y 1 = 2 ; »(x, y) = 1", "(x, y@z) = 1 ; »z = 1", "x = 1 ; »(y@(z, x)) = 1",
		"x + y = 1 ; z = 2 ; »x + y = 3", "x + y = 1 ; z = 1 ; »(+) 1 = 2", "f 1 = 2 ; g = 1 ; »x `f` y = 2",
		"f 1 = 2 ; infixl 3 + ; »f 2 = 3", "f 1 = 2 ; data D = D ; »f 2 = 3", "f = 1 ; infixl 3 + ; »f = 3", // what stands between parts them, whatever it is
		// Of several the first.
		"f = 1 ; »f = 2 ; f = 3", "f = 1 ; g = 1 ; »g = 2 ; f = 2", "f = 1 ; »f = 2 ; f 1 = 3 ; f 1 2 = 3", "f = 1 ; »(f, x, x) = 2", "»(x, x) = 1 ; x = 2", "f 1 = 2 ; »(y, y) = 1 ; f 1 2 = 3",
		// Wherever else those names stand.
		"f = f ; g = g ; »f = g", "f g = 1 ; g f = 2 ; »f g = 3",
	} {
		checkList(t, api.ErrScope, list)
	}
}

// checkList asks for the fault of a list of declarations wherever it may stand; but for data and fixities these may stand everywhere.
func checkList(t *testing.T, e api.Errno, list string) {
	t.Helper()
	checkMarked(t, e, list, "q1 = 1 ; "+list, list+" ; q1 = 1", "q1 = let { "+list+" } in 1", "q1 = 1 where { "+list+" }", "q1 | 1 = 2 where { "+list+" }", "q1 q2 = case 1 of { q3 -> 1 where { "+list+" } }", "q1 = do { let { "+list+" } ; 1 }", "q1 = [ 1 | let { "+list+" } ]", "q1 = [ 1 | 1, let { q2 = 1 }, let { q3 = 1 ; "+list+" }, 1 ]")
}

// P10.1: an equation with another number of patterns than the one ahead of it.
func TestNumbersOfPatterns(t *testing.T) {
	for _, list := range []string{
		"f 1 = 2 ; »f 1 2 = 3", "f 1 2 = 2 ; »f 1 = 3", "f 1 = 2 ; f 2 = 3 ; »f 1 2 = 3", "f 1 = 2 ; »f 1 2 = 3 ; f 1 = 4", "f 1 2 = 2 ; »f 1 = 3 ; f 1 = 4", "x + y = 1 ; »(+) x y z = 2", "g 1 = 2 ; f 1 2 = 3 ; »f 1 = 2", "f 1 2 3 4 = 1 ; f 1 2 3 4 = 1 ; »f 1 2 3 = 1", "x `f` y = 2 ; »f 1 = 3", "f (1, 2) = 1 ; »f 1 2 = 2",
		// Of several the first.
		"f 1 = 2 ; »f 1 2 = 3 ; g = 1 ; g = 2", "f 1 = 2 ; »f 1 2 = 3 ; f = 3", "f 1 = 2 ; »f 1 2 = 3 ; f 1 2 3 = 4",
	} {
		checkList(t, api.ErrShape, list)
	}
	checkList(t, api.ErrScope, "g = 1 ; »g = 2 ; f 1 = 2 ; f 1 2 = 3")
	checkFine(t, "f 1 2 = 3\nf 2 3 = 4\nf x y = 5\ng 1 = 2\ng 2 = 3", "f 1 = 2 where { f 1 2 = 3 }", "f 1 = let { f 1 2 3 = 3 ; f x y z = 2 } in f\nf 2 = 4")
}

// P10.1: a name twice in patterns that stand together, at the second one's place.
func TestTwiceInPatterns(t *testing.T) {
	together := []string{"x »x", "x y »x", "x »x x", "y x »x", "x y »y x", "x (y, »x)", "(x, »x)", "(x, y, z, »x)", "[x, »x]", "[y, x, z, »x]", "(x : »x)", "(x : y : »x)", "(Cons x »x)", "(x@»x)", "(x@(y, »x))", "(x@_) »x", "x (»x@_)", "x (»x@x)", "(y@x) »x", "(y@x) (»y@x)", "(~x) »x", "x ~»x", "x (~(y, »x))", "_ x _ »x", "x 1 'a' \"x\" [] »x", "((x)) ((»x))", "(x, y) (z, »y)", "((x, y), (z, u)) [»u, x]", "add »add", "f »f", "_x »_x", "x x' »x"}
	for _, pats := range together {
		checkMarked(t, api.ErrScope, "f "+pats+" = 1", "f 1 = 2\ng "+pats+" = 1", "f = \\ "+pats+" -> 1", "f y0 = \\ y1 -> \\ "+pats+" -> y2", "f = 1 where g "+pats+" = 2", "f = let g "+pats+" = 2 in 1")
		if isOne(pats) {
			checkMarked(t, api.ErrScope, "f = case 1 of { "+pats+" -> 1 }", "f = case 1 of { y0 -> 1 ; "+pats+" | 1 -> y0 }", "f = do { "+pats+" <- 1 ; 2 }", "f = do { 1 ; "+pats+" <- y0 ; 2 }", "f = [ 1 | "+pats+" <- 1 ]", "f = [ y0 | 1, "+pats+" <- y0, y1 ]")
		}
	}
	checkMarked(t, api.ErrScope, "x + »x = 1", "x `f` »x = 1", "f = case 1 of { [x, »x] -> 1 }", "f = do { [x, »x] <- 1 ; 2 }", "f = do { x@»x <- 1 ; 2 }", "f = [ 1 | x@(y, »y) <- 1 ]")
}

// isOne tells whether a text is one pattern in brackets.
func isOne(text string) bool {
	open := 0
	for i, c := range text {
		switch c {
		case '(', '[':
			open++
		case ')', ']':
			open--
		}
		if open == 0 {
			return i == len(text)-1
		}
	}
	return false
}

// P10.1: operators of rows are not asked for, those of sections are, but for constructors'.
func TestOperators(t *testing.T) {
	for _, text := range []string{"f = 1 +++ 2", "f = 1 `zoe` 2 +++ 3", "f = 1 :+ 2", "f = (1 +++ 2) 3", "f x = x - 1", "f (x :+ y) = x `zoe` y", "f = [ x +++ y | x :+ y <- 1 ]", "infixl 3 +++, `zoe`"} {
		checkFault(t, text, rows(t, text), api.Fault{})
	}
	for _, marked := range []string{"f = 1 +++ »zoe", "f = »zoe +++ zow", "f = 1 + (2 + »zoe)", "f = - »zoe", "f (x :+ »x) = zoe", "f = (\\ (x `Cons` y `Cons` »x) -> 1)"} {
		text, at := unmarked(t, marked)
		checkFault(t, text, rows(t, text), api.Fault{Err: api.ErrScope, At: at})
	}
	checkMarked(t, api.ErrScope,
		"f = »(+++ 1)", "f = »(1 +++)", "f = »(`zoe` 1)", "f = »(1 `zoe`)", "f = »(- 1 `zoe`)", "f = g »(+++ 1) where g = 1",
		"f = »(+++ zoe)", "f = »(zoe +++)", "f = »((zow zoe) `zoe`)", // ahead of its kid
		"f = (:+ »zoe)", "f = (»zoe :+)", "f = (»zoe :)", "f = (`Zoe` »zoe)", "f = (»zoe `Zoe`)", "f = (add 1 »zoe `Tup2`)", // constructors are not asked for, kids are
		"f = (`f` »zoe)", "f = (»zoe `f`)", "f = (let { x +++ y = 1 } in (1 +++)) »(1 +++)",
	)
	checkFine(t, "f = (1 :+) (:+ 1) (1 `Zoe`) (`Zoe` 1) (1 :) (: 1)", "f = (+++ 1) (1 +++)\nx +++ y = x", "f = (`f` 1) (1 `f`) (`add` 1)", "f zoe = (`zoe` 1) (1 `zoe`)", "f = \\ op -> (1 `op`)", "f = - 1")
}

// P10.1: of several faults the first: a node ahead of its kids, from the left, a comprehension's first expression behind its other kids.
func TestFirstFault(t *testing.T) {
	checkMarked(t, api.ErrScope,
		"f = »y\ng = z", "f = »y z", "f = add »y z", "f x »x = y", "f = \\ x »x -> y", "f = case »y of { (x, x) -> z }", "f = case 1 of { (x, »x) -> z }", "f = (»y, z)", "f = [»y, z]", "f = if »y then z else u", "f = if 1 then »z else u", "f = - »y",
		"f | »y = z | u = v", "f | 1 = »z | u = v", "f | 1 = 2 | »u = v where { w = y }", "f = »y where { x = 1 ; x = 2 }", "f = 1 where { x = z ; »x = 2 }", "f = let { x = z ; »x = y } in u", "f = let { x = »z } in u",
		"f = do { »x ; y }", "f = do { (x, »x) <- y ; z }", "f = do { x <- »y ; z }", "f = do { let { x = u ; »x = v } ; z }", "f = do { let { x = »u } ; z }", "f = do { 1 ; »z }",
		"f = [ z | »y ]", "f = [ »z | x <- 1 ]", "f = [ z | x <- »y, w ]", "f = [ z | x <- 1, »w, u ]", "f = [ z | (x, »x) <- y ]", "f = [ \\ x x -> 1 | »y ]", "f = [ z | let { x = 1 ; »x = y } ]", "f = [ [ z | »u ] | 1 ]", "f = [ [ z | u ] | »v ]", "f = [ [ »z | 1 ] | 1 ]",
		// A list's own faults ahead of those within its declarations, whichever these are.
		"f = y\n»f = 2", "f x x = 1\ng = 1\n»g = 2", "f = (+++ 1)\n»(x, x) = y", "f = let { x = 1 ; x = 2 } in 1\n»f = 3", "f = 1 where { g = y ; h 1 = 2 ; g1 = 1 ; »h 2 = z }",
		"f 1 = 2 where { x = 1 ; »x = 2 }\nf 2 = y",
	)
	checkMarked(t, api.ErrShape,
		"f 1 = y\n»f 1 2 = z", "f x x = 1\n»f x = 2", "f = let { g 1 = y ; »g 1 2 = 2 } in z", "f = 1 where { g 1 = 2 ; »g 1 2 = 2 ; g 1 = 3 }\nh = y", "f = [ y | let { g 1 = 2 ; »g 1 2 = z } ]",
	)
}

// P10.1: shape's faults come first, wherever they stand.
func TestShapesFaultsFirst(t *testing.T) {
	checkMarked(t, api.ErrScope, "f = y\ng = »Zoe", "f = 1\nf = 2\ng (»Zoe) = 1", "f x x = »Zoe", "f = 1\nf = 2\n»data Bool = A", "f = y\ndata T = A | »A", "f = [ »Zoe | y ]")
	checkMarked(t, api.ErrShape, "f = y\ng (»True x) = 1", "f 1 = 2\nf 1 2 = 3\ng = case y of { »Cons x -> 1 }")
	for _, n := range []api.Node{{}, {Kind: -1}, {Kind: math.MaxInt}, variable("x"), number(), bind("x", number()), node(api.NdProgram, variable("x")), node(api.NdWhere), {Kind: api.NdProgram, Name: "x"}, node(api.NdProgram, node(api.NdBind)), node(api.NdProgram, bind("X", number())), node(api.NdProgram, bind("x", node(api.NdLeft, number()))), node(api.NdProgram, bind("x", node(api.NdComp)))} {
		checkFault(t, "what may not be", n, api.Fault{Err: api.ErrArg})
		if shape.Check(n) != scope.Check(n) {
			t.Errorf("shape has another fault of %v", n)
		}
	}
	deep := node(api.NdProgram, node(api.NdBind, lazily(named(api.NdPVar, "x"), 254), node(api.NdRhs, variable("y"))))
	checkFault(t, "too deep", deep, api.Fault{Err: api.ErrLong})
	self := node(api.NdProgram, bind("x", number()))
	self.Kids[0] = node(api.NdProgram, self.Kids...)
	checkFault(t, "a part of itself", self, api.Fault{Err: api.ErrLong})
}

// P10.1: a fault's place is that of the node, whatever it is.
func TestPlaces(t *testing.T) {
	x, v := named(api.NdPVar, "x"), variable("x")
	for _, p := range []int{0, 1, -1, math.MinInt, math.MaxInt, 65536} {
		scopeAt, shapeAt := api.Fault{Err: api.ErrScope, At: p}, api.Fault{Err: api.ErrShape, At: p}
		checkFault(t, "a variable", node(api.NdProgram, at(5, bind("y", at(p, v)))), scopeAt)
		checkFault(t, "a section", node(api.NdProgram, bind("y", at(p, named(api.NdLeft, "x", v)))), scopeAt)
		checkFault(t, "a section", node(api.NdProgram, bind("y", at(p, named(api.NdRight, "+", v)))), scopeAt)
		checkFault(t, "a pattern", node(api.NdProgram, bind("y", node(api.NdLam, at(7, x), at(p, x), v))), scopeAt)
		checkFault(t, "a pattern", node(api.NdProgram, bind("y", node(api.NdLam, at(7, x), at(p, named(api.NdPAs, "x", x)), v))), scopeAt)
		checkFault(t, "a binding", node(api.NdProgram, at(8, bind("x", v)), at(p, bind("x", v))), scopeAt)
		eqn := func(pats ...api.Node) api.Node { return named(api.NdEqn, "f", append(pats, node(api.NdRhs, v))...) }
		checkFault(t, "an equation", node(api.NdProgram, eqn(x), at(p, eqn(x, x))), shapeAt)
		checkFault(t, "an equation", node(api.NdProgram, eqn(x), bind("y", v), at(p, eqn(x))), scopeAt)
	}
}
