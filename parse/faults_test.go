package parse_test

import (
	"strings"
	"testing"

	"thunkmill/api"
	"thunkmill/lex"
	"thunkmill/parse"
)

func readers() map[string]reader {
	return map[string]reader{"Raw": parse.Raw, "Parse": parse.Parse, "Expr": parse.Expr}
}

// programReaders are those that read a program.
func programReaders() []reader { return []reader{parse.Raw, parse.Parse} }

// TestLexFaults: what lex refuses is told as lex tells it, ahead of all else (P6.1, P6.2).
func TestLexFaults(t *testing.T) {
	for name, read := range readers() {
		for _, s := range []string{"x = \"a", "x = ''", "{- x", "x = 9223372036854775808", "x\r", "\x00", "f = ) \"", "} \x7f", strings.Repeat(" ", api.MaxSource+1)} {
			_, want := lex.All(s)
			if _, got := read(s); got != want || want.Err == api.OK {
				t.Errorf("%s of %.20q: got %v, lex tells %v", name, s, got, want)
			}
		}
	}
	if _, f := parse.Raw(strings.Repeat(" ", api.MaxSource+1)); f != (api.Fault{Err: api.ErrLong, At: -1}) {
		t.Errorf("Raw of a text that is too long: %v", f)
	}
}

const declarationFaults = `
x§
x §
x y§
x §)
x §-> y
x §<- y
x §, y
x = §
x = y §= z
x = y §-> z
x = y §| z
x §; y = 1
x ¶§y = 1
§) = 1
§in
§= 1
§| 1
§then
§, x
§where
§..
§` + "`x`" + `
§+ = 1
x = 1¶§)
x = 1 §)
x = 1 §in
x = 1 §]
x = 1 §,
x = 1 §.. 2
x | §
x | a§
x | a §-> b
x | a = §
x | a = b | §
x | a = b §-> c
x | §= a
x | §| a = b
x §where y = 1
x = 1 where y = 2 §)
x = 1 where { y = 2 } §z
x = 1 where { } §where { }
x = 1 where §in
x = 1 where §)
{ x = 1 } §x = 2
{ } §{ }
{ } §;
{ x = 1 §{ } }
{ x = 1 §) }
{ §in }
{ x = 1 ; §) }
{ x = 1 §in 2 }
{ x = §}
{ x §}
-- data
data§
data §x = C
data T§
data T §x = C
data T §| C
data T = §
data T = §x
data T = C §D
data T = C x §1
data T = C | §
data T = C §, D
data T = C §= D
data T = C a §(b)
data T = C §_
data T = C a §@ b
data §(:) = C
data T = §(:) a b
x = §{ y }
x = §data
-- fixities
infixl§
infixl §+
infixl §10 +
infixl §9223372036854775807 +
infixl §- 1 +
infixl 9§
infixl 9 §x
infixl 9 §C
infixl 9 +, §
infixl 9 + §*
infixl 9 §=
infixl 9 §, +
infixr §'a' +
infixr §'\9' +
infixr §"1" +
infixr §x
infix 1 §(+)
infix 1 +, + §1
infix 1 +, §, *
`

// TestDeclarationFaults: tokens that can't go on with a declaration (P6.1).
func TestDeclarationFaults(t *testing.T) {
	l := append(lines(declarationFaults), "infix 1 `§", "infix 1 `x§", "infix 1 `§+`", "infix 1 `x §y`", "infix 1 `§1`", "infix 1 `§_`")
	for _, read := range programReaders() {
		wantFaults(t, read, api.ErrSyntax, l...)
	}
}

const expressionFaults = `
-- operands and operators
y +§
y + §+ z
y + §)
- §- y
-§
y - - §- z
§+ y
- §+ y
y §do z
y §\ z -> z
y §if z then z else z
y §let { } in z
y §case z of { a -> b }
§then
§else
§of
§in
§data
§where
§infixl 1 +
y §{ z }
§= y
§<- y
§| y
§-> y
§..
y §.. z
-- lambda
\§
\ §-> y
\ y§
\ y §= z
\ y §+ z -> y
\ y -> §
\ §- y -> z
\ y §. z
\ y §<- z
\ y §| z -> y
-- let
let§
let { y = 1 }§
let { y = 1 } §y
let { y = 1 } §; in y
let y §in z
let y = §in z
let y = 1 in §
let y = 1 in z §in w
let §) in w
let { §) } in w
let { y = 1 §in w
-- if
if§
if a§
if a then§
if a then b§
if a then b else§
if §then b else c
if a then §else c
if a §) b
if a §else b
if a then b §then c
-- case
case§
case y§
case §of
case y §-> z
case y §{ z -> w }
case y of z§
case y of { z §}
case y of { z §; z -> w }
case y of { z §= w }
case y of { z -> w §-> u }
case y of { z -> w §| u -> v }
case y of { z | §-> w }
case y of { z | w §= v }
case y of { z | w -> v §-> u }
case y of { §data T = C }
case y of { let { } §}
-- do
do { y §= z }
do { y <- §}
do { y <- z §<- w }
do { §<- y }
do { y §-> z }
do { y §| z }
do { let { } §y }
do { let { } §<- y ; z }
do y §= z
do { §data T = C }
do { y §, z }
do { y §] }
`

// TestExpressionFaults: tokens that can't go on with an expression (P6.1, P6.2).
func TestExpressionFaults(t *testing.T) {
	l := append(lines(expressionFaults), "y `§", "y `z§", "y `§1` z", "y `§+` z", "y `z §w` v", "y `z` §`w` v", "§`f` y", "§`", "y `§_` z", "y `z`§")
	wantFaultsAround(t, api.ErrSyntax, l)
}

// wantFaultsAround reads marked texts as an expression, and in programs in which they are one.
func wantFaultsAround(t *testing.T, e api.Errno, marked []string) {
	t.Helper()
	for _, m := range marked {
		wantFaults(t, parse.Expr, e, m)
		for _, read := range programReaders() {
			wantFaults(t, read, e, "x = "+m, "x = 1\nf y | y = "+m)
		}
	}
}

const atomFaults = `
(§
(y§
(y §]
(y §}
(y, §)
(y §; z)
(y¶§z)
(y §= z)
(y §| z)
(y §<- z)
(y §-> z)
(y §.. z)
(§, y)
(§,)
(§=)
(§|)
(§..)
(§;)
(§])
(+§
(+ §, y)
(+ §])
(+ §+ y)
(+ y§
(+ y §, z)
(+ y + §)
(y + §, z)
(y + §]
(y +§
(y, z + §)
(y, §+ z)
(y, §+)
(-§
(- §, y)
(- §+ y)
(- §- y)
(- §-)
(y + - §)
(y - - §)
(\ y -> z + §)
(if a then b else c + §)
(let { } in a + §)
(do a + §)
[§
[y§
[y §)
[y §}
[y, §]
[§, y]
[§,]
[y §.. z]
[§.. ]
[y, z §| w]
[§| y]
[y |§
[y | §]
[y | z, §]
[y | §, z]
[y | z §| w]
[y | z <- §]
[y | z <- w §<- v]
[y | z §= w]
[y | z§
[y + §]
[y §; z]
[y | let { } §y]
[y | let { } §<- y]
[y | §data]
§@
§@ y
1 §@ y
C §@ y
(y) §@ z
"" §@ z
y @§
y @ §+ z
y @ §)
~§
~ §)
~ §- y
() §)
[] §]
`

// TestAtomFaults: tokens that can't go on with an atom (P6.1, P6.2).
func TestAtomFaults(t *testing.T) {
	var l []string
	for _, m := range lines(atomFaults) {
		if strings.Contains(m, "§}") {
			// The layout is wrong there, unless a block in braces is around.
			wantFaults(t, parse.Raw, api.ErrSyntax, "{ x = "+m)
			wantFaults(t, parse.Expr, api.ErrSyntax, "{ "+m)
			continue
		}
		l = append(l, m)
	}
	wantFaultsAround(t, api.ErrSyntax, append(l, "(`y§", "(`y` §]", "(`§1` x)", "(y `z` §, w)", "(`y` §`z` w)"))
}

// TestTuples: they have two to four parts (P6.1).
func TestTuples(t *testing.T) {
	wantFaultsAround(t, api.ErrSyntax, lines(`
(1, 2, 3, 4§, 5)
(1, 2, 3, 4§,
(1, 2, 3, 4§,,)
(1, 2, 3, 4§, 5, 6)
(1, 2, 3, do 4§, 5)
(1, 2, (3, 4, 5, 6§, 7))
(1, 2, 3, 4 §]
`))
	wantFaults(t, parse.Raw, api.ErrSyntax, "(1, 2, 3, 4§, 5) = 1", "f (1, 2, 3, 4§, 5) = 1")
	wantTold(t, rightSide, map[string]string{
		"((1, 2, 3, 4), 5, 6, [1, 2, 3, 4, 5])": "Tuple(Tuple(Int:1, Int:2, Int:3, Int:4), Int:5, Int:6, List(Int:1, Int:2, Int:3, Int:4, Int:5))",
	})
}

// TestNumbers: levels from 0 to 9, constructors of up to 32 parts (P6.1).
func TestNumbers(t *testing.T) {
	for i, level := range strings.Fields("0 1 2 3 4 5 6 7 8 9") {
		n, f := parse.Raw("infix " + level + " +")
		if f != (api.Fault{}) || n.Kids[0].Num != int64(i) {
			t.Errorf("level %s: %s %v", level, told(n), f)
		}
	}
	for _, level := range []string{"10", "11", "0xa", "100", "9223372036854775807"} {
		wantFaults(t, parse.Raw, api.ErrSyntax, "infix §"+level+" +", "x = let infixr §"+level+" + in y", "infixl 9 + ; infixl §"+level)
	}
	for parts := range 33 {
		n, f := parse.Raw("data T = D | C" + strings.Repeat(" a", parts) + " | E b")
		if f != (api.Fault{}) || n.Kids[0].Kids[1].Num != int64(parts) || n.Kids[0].Kids[2].Num != 1 {
			t.Errorf("%d parts: %s %v", parts, told(n), f)
		}
	}
	full := "data T = C" + strings.Repeat(" a", 32)
	wantFaults(t, parse.Raw, api.ErrSyntax, full+" §a", full+" §a a", full+" §a ) (", full+" §a | D", "{"+full+" §a }", "x = let "+full+" §a in x", full+" §1", full+" | D"+strings.Repeat(" b", 32)+" §b")
}

// TestCasesAndDos: a case has an alternative, a do a last statement that is an expression: else the } is wrong (P6.1).
func TestCasesAndDos(t *testing.T) {
	wantFaultsAround(t, api.ErrSyntax, lines(`
case y of { §}
case y of { ; §}
case y of { ; ; §} + 1
case y of§
(case y of §)
[case y of §, z]
case y of ;§
if case y of §then
do { §}
do { ; §}
do§
(do §)
do { y <- z §}
do { y <- z ; §}
do { y ; y <- z §}
do { let { } §}
do { let { } ; ; §}
do { y ; let { } ; §} + 1
(do y <- z §)
(do y <- z ; §)
(do let y = 1 §)
do y <- z§
do let y = 1§
[do y <- z §, w]
let a = do b <- c §in d
`))
	wantFaults(t, parse.Raw, api.ErrSyntax, "x = case y of\n§z = 1", "x = do\n§z = 1", "x = do\n a <- b\n§z = 1", "{ x = case y of §}", "{ x = do y <- z §}", "{ x = do §}")
}

// TestLayoutFaults: where the layout is wrong, and nothing can be closed (P6.1, P6.2).
func TestLayoutFaults(t *testing.T) {
	wantFaultsAround(t, api.ErrLayout, lines(`
y §}
§}
y + §}
(y §}
[y, §}
do y §}
(do y §}
let y = 1 §}
let §}
if y §}
case y §}
\ y §}
`))
	for _, read := range programReaders() {
		wantFaults(t, read, api.ErrLayout, "§}", "x §}", "{§", "{ x§", "{ x = 1§", "x = {- -} §}", "{ } §}", "{ x = 1 } §}", "{ x = (1§", "{ x = do {§", "{ x = do { y }§", "{ x = 1 where y = 2§", "x = do { y§", "x = do { y\n§")
	}
	wantFaults(t, parse.Expr, api.ErrLayout, "§}", "x §}", "{§", "{ x§", "{ x } §}", "{ (1§", "do { y§")
}
