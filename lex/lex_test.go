package lex_test

import (
	"math"
	"slices"
	"strings"
	"testing"

	"thunkmill/api"
	"thunkmill/lex"
)

// told tells tokens without their places, as the tables of these tests write them.
func told(l []api.Token) []api.Token {
	out := make([]api.Token, len(l))
	for i, t := range l {
		out[i] = api.Token{Kind: t.Kind, Text: t.Text, Num: t.Num}
	}
	return out
}

func tok(kind int, text string) api.Token { return api.Token{Kind: kind, Text: text} }

func num(kind int, n int64) api.Token { return api.Token{Kind: kind, Num: n} }

func name(text string) api.Token { return tok(api.TokName, text) }

func op(text string) api.Token { return tok(api.TokOp, text) }

func sign(text string) api.Token { return tok(api.TokSign, text) }

func mark(text string) api.Token { return tok(api.TokMark, text) }

func str(text string) api.Token { return tok(api.TokString, text) }

func char(n int64) api.Token { return num(api.TokChar, n) }

func integer(n int64) api.Token { return num(api.TokInt, n) }

type lexed struct {
	text string
	want []api.Token
}

func checkLexed(t *testing.T, rows []lexed) {
	t.Helper()
	for _, r := range rows {
		got, f := lex.All(r.text)
		if f != (api.Fault{}) || !slices.Equal(told(got), r.want) {
			t.Errorf("All(%q) = %v, %v, want %v", r.text, got, f, r.want)
		}
	}
}

func checkFaults(t *testing.T, rows map[string]int) {
	t.Helper()
	for text, at := range rows {
		got, f := lex.All(text)
		if len(got) != 0 || f != (api.Fault{Err: api.ErrLex, At: at}) {
			t.Errorf("All(%q) = %v, %v, want ErrLex at %d", text, got, f, at)
		}
	}
}

func TestExamplesOfTheChapter(t *testing.T) {
	checkLexed(t, []lexed{
		{"x1' = a+b -- c", []api.Token{name("x1'"), sign("="), name("a"), op("+"), name("b")}},
		{"--> |-- ... ..", []api.Token{op("-->"), op("|--"), op("..."), sign("..")}},
		{`0x1F 12ab 'a' '\n' "a\&b"`, []api.Token{integer(31), integer(12), name("ab"), char(97), char(10), str("ab")}},
		{"{- a {- b -} c -} d", []api.Token{name("d")}},
	})
	checkFaults(t, map[string]int{"\"a\n": 0, "''": 0, "9223372036854775808": 0})
	// Each at its own place, wherever that is.
	checkFaults(t, map[string]int{"x \"a\n": 2, "x\n ''": 3, "x\t9223372036854775808": 2})
}

// The kinds, each by itself and side by side with others.
func TestKinds(t *testing.T) {
	con := func(text string) api.Token { return tok(api.TokCon, text) }
	conOp := func(text string) api.Token { return tok(api.TokConOp, text) }
	checkLexed(t, []lexed{
		{"", nil},
		{"a", []api.Token{name("a")}},
		{"z", []api.Token{name("z")}},
		{"_a", []api.Token{name("_a")}},
		{"__", []api.Token{name("__")}},
		{"_'", []api.Token{name("_'")}},
		{"aZ_09'z'", []api.Token{name("aZ_09'z'")}},
		{"a'b' 'c'", []api.Token{name("a'b'"), char('c')}},
		{"A", []api.Token{con("A")}},
		{"Z", []api.Token{con("Z")}},
		{"Aa_0'Z", []api.Token{con("Aa_0'Z")}},
		{"Case aCase", []api.Token{con("Case"), name("aCase")}},
		{"a.B:c", []api.Token{name("a"), op("."), con("B"), conOp(":"), name("c")}},
		{": :: :+ +: :-- :=", []api.Token{conOp(":"), conOp("::"), conOp(":+"), op("+:"), conOp(":--"), conOp(":=")}},
		{`!#$%&*+./<=>?@\^|-~:`, []api.Token{op(`!#$%&*+./<=>?@\^|-~:`)}},
		{"! # $ % & * + . / < > ? ^ -", []api.Token{op("!"), op("#"), op("$"), op("%"), op("&"), op("*"), op("+"), op("."), op("/"), op("<"), op(">"), op("?"), op("^"), op("-")}},
		{"()[],;`{}", []api.Token{mark("("), mark(")"), mark("["), mark("]"), mark(","), mark(";"), mark("`"), mark("{"), mark("}")}},
		{"f(x)", []api.Token{name("f"), mark("("), name("x"), mark(")")}},
		{`\x->y`, []api.Token{sign(`\`), name("x"), sign("->"), name("y")}},
		{"a\"b\"'c'1D", []api.Token{name("a"), str("b"), char('c'), integer(1), con("D")}},
	})
}

func TestNumbers(t *testing.T) {
	checkLexed(t, []lexed{
		{"0", []api.Token{integer(0)}},
		{"007", []api.Token{integer(7)}},
		{"9223372036854775807", []api.Token{integer(math.MaxInt64)}},
		{"000000000000009223372036854775807", []api.Token{integer(math.MaxInt64)}},
		{"0x7fffffffffffffff", []api.Token{integer(math.MaxInt64)}},
		{"0x7FFFFFFFFFFFFFFF", []api.Token{integer(math.MaxInt64)}},
		{"0x00000000000000000000fF", []api.Token{integer(255)}},
		{"0x0123456789", []api.Token{integer(0x123456789)}},
		{"0xabcdef 0xABCDEF", []api.Token{integer(0xabcdef), integer(0xabcdef)}},
		{"0x", []api.Token{integer(0), name("x")}},
		{"0xg", []api.Token{integer(0), name("xg")}},
		{"0xfg", []api.Token{integer(15), name("g")}},
		{"0x 1", []api.Token{integer(0), name("x"), integer(1)}},
		{"00x1", []api.Token{integer(0), name("x1")}},
		{"1x1", []api.Token{integer(1), name("x1")}},
		{"0X1", []api.Token{integer(0), tok(api.TokCon, "X1")}},
		{"1F", []api.Token{integer(1), tok(api.TokCon, "F")}},
		{"1_000", []api.Token{integer(1), name("_000")}},
		{"0x1_0", []api.Token{integer(1), name("_0")}},
		{"-1", []api.Token{op("-"), integer(1)}},
		{"1.5", []api.Token{integer(1), op("."), integer(5)}},
		{"1..2", []api.Token{integer(1), sign(".."), integer(2)}},
		{"1'a'", []api.Token{integer(1), char('a')}},
	})
	checkFaults(t, map[string]int{
		"9223372036854775808":               0,
		" 99999999999999999999999999999999": 1,
		"a 0x8000000000000000":              2,
		"a0 0xffffffffffffffffffffff":       3,
		"1 0009223372036854775808 \"":       2,
	})
}

func TestCharacters(t *testing.T) {
	checkLexed(t, []lexed{
		{"' '", []api.Token{char(32)}},
		{"'~'", []api.Token{char(126)}},
		{`'"'`, []api.Token{char('"')}},
		{`'\"'`, []api.Token{char('"')}},
		{`'\''`, []api.Token{char('\'')}},
		{`'\\'`, []api.Token{char('\\')}},
		{`'\n'`, []api.Token{char(10)}},
		{`'\t'`, []api.Token{char(9)}},
		{`'\0'`, []api.Token{char(0)}},
		{`'\255'`, []api.Token{char(255)}},
		{`'\000000000000000000000255'`, []api.Token{char(255)}},
		{`'\xff'`, []api.Token{char(255)}},
		{`'\xFF'`, []api.Token{char(255)}},
		{`'\x000000000000000000041'`, []api.Token{char('A')}},
		{`'n''t'`, []api.Token{char('n'), char('t')}},
		{`'-''-'`, []api.Token{char('-'), char('-')}},
	})
	checkFaults(t, map[string]int{
		`'`: 0, `''`: 0, `'''`: 0, `'a`: 0, `'ab'`: 0, `'a"`: 0, `'\`: 0, `'\'`: 0,
		`'\a'`: 0, `'\N'`: 0, `'\X41'`: 0, `'\x'`: 0, `'\xg'`: 0, `'\x 1'`: 0, `'\ '`: 0,
		`'\256'`: 0, `'\x100'`: 0, `'\99999999999999999999999'`: 0, `'\xfffffffffffffffffffff'`: 0,
		`'\12a'`: 0, `'\-1'`: 0, `'\&'`: 0, `'a\&'`: 0, `'\&a'`: 0, `'\ \a'`: 0, `'a\ \'`: 0,
		"'\t'": 0, "'\n'": 0, "'a\n'": 0, "'\\\n\\a'": 0,
		"x 'ab'": 2,
	})
}

func TestStrings(t *testing.T) {
	checkLexed(t, []lexed{
		{`""`, []api.Token{str("")}},
		{`"a b~"`, []api.Token{str("a b~")}},
		{`"'"`, []api.Token{str("'")}},
		{`"\'\"\\\n\t"`, []api.Token{str("'\"\\\n\t")}},
		{`"\0\255\x0\xfF"`, []api.Token{str("\x00\xff\x00\xff")}},
		{`"\x41G\65g"`, []api.Token{str("AGAg")}},
		{`"\0x41"`, []api.Token{str("\x00x41")}},
		{`"\&"`, []api.Token{str("")}},
		{`"\1\&2"`, []api.Token{str("\x012")}},
		{`"\x4\&1"`, []api.Token{str("\x041")}},
		{`"\\&"`, []api.Token{str(`\&`)}},
		{`"\ \"`, []api.Token{str("")}},
		{`"a\ \b"`, []api.Token{str("ab")}},
		{"\"a\\ \t\n  \\b\" c", []api.Token{str("ab"), name("c")}},
		{"\"\\\n\\\"", []api.Token{str("")}},
		{"\"\\\n\n\\\\\n\\\"", []api.Token{str("")}},
		{"\"\\1\\\n\\2\"", []api.Token{str("\x012")}},
		{"\"\\1\\\n\\\\2\"", []api.Token{str("\x01\x02")}},
		{"\"1\\\n\\2\"", []api.Token{str("12")}},
		{`"a\ \\n\ \b"`, []api.Token{str("a\nb")}},
		{`"{- " -- "`, []api.Token{str("{- ")}},
		{`"-- "x`, []api.Token{str("-- "), name("x")}},
		{`"a""b"`, []api.Token{str("a"), str("b")}},
	})
	checkFaults(t, map[string]int{
		`"`: 0, `"a`: 0, `"\`: 0, `"\"`: 0, `"a'`: 0,
		"\"\n\"": 0, "\"a\n": 0, "\"a\nb\"": 0, "\"\t\"": 0,
		`"\a"`: 0, `"\N"`: 0, `"\x"`: 0, `"\xg"`: 0, `"\256"`: 0, `"\x100"`: 0, `"\1234"`: 0, `"\x041F"`: 0,
		`"\99999999999999999999999999"`: 0,
		`"\ "`:                          0, `"\ a\"`: 0, `"\ &\"`: 0, "\"\\\n\"": 0, "\"\\\n": 0, "\"\\ \n-- c\n\\\"": 0,
		`x "a" "b`: 6,
	})
}

func TestRemarks(t *testing.T) {
	checkLexed(t, []lexed{
		{" \t\n", nil},
		{"--", nil},
		{"-----", nil},
		{"-- a\nb", []api.Token{name("b")}},
		{"a--b\nc", []api.Token{name("a"), name("c")}},
		{"(--)\n)", []api.Token{mark("("), mark(")")}},
		{"--a", nil},
		{"--\"", nil},
		{"--'\n--,\n--(", nil},
		{"a\n--", []api.Token{name("a")}},
		{"--\n--\n", nil},
		{"-- {- \n a", []api.Token{name("a")}},
		{"--{-\n a", []api.Token{name("a")}},
		{"-", []api.Token{op("-")}},
		{"- -", []api.Token{op("-"), op("-")}},
		{"-->a", []api.Token{op("-->"), name("a")}},
		{"--| --: --. |-- .--. -|- --=", []api.Token{op("--|"), op("--:"), op("--."), op("|--"), op(".--."), op("-|-"), op("--=")}},
		{`\-- x`, []api.Token{op(`\--`), name("x")}},
		{"{--}", nil},
		{"{---}", nil},
		{"{-\n-}a", []api.Token{name("a")}},
		{"{-{--}-}a", []api.Token{name("a")}},
		{"{-{-}-}-}a", []api.Token{name("a")}},
		{"{-}-}a", []api.Token{name("a")}},
		{"{- \" -} a", []api.Token{name("a")}},
		{"{- -- -} a", []api.Token{name("a")}},
		{"{--> -} a", []api.Token{name("a")}},
		{"{- {- {- -} {- -} -} -} a", []api.Token{name("a")}},
		{"a{--}b{--}{--}c", []api.Token{name("a"), name("b"), name("c")}},
		{"a{- -}-- b", []api.Token{name("a")}},
		{"--\n{--}--\n{--} a", []api.Token{name("a")}},
		{"+{--}+", []api.Token{op("+"), op("+")}},
		{"-{- -}-", []api.Token{op("-"), op("-")}},
		{"{ -}", []api.Token{mark("{"), op("-"), mark("}")}},
		{"-}", []api.Token{op("-"), mark("}")}},
		{"{|-}", []api.Token{mark("{"), op("|-"), mark("}")}},
		{"{" + strings.Repeat("-", 50) + "}", nil},
		{strings.Repeat("{-", 1000) + strings.Repeat("-}", 1000) + "x", []api.Token{name("x")}},
	})
	checkFaults(t, map[string]int{
		"{-": 0, "{-}": 0, "{- a": 0, "a {- {- -}": 2, "{- -} {- ": 6, "{-{-}-}": 0, "{- '": 0, "{- - }": 0,
	})
}

// What is first from the left counts, be it a lexeme or a remark, and whatever comes behind it.
func TestTheFirstFault(t *testing.T) {
	checkFaults(t, map[string]int{
		"a '' 9223372036854775808 \"": 2,
		"a 9223372036854775808 ''":    2,
		"a {- ''":                     2,
		"a \" {-":                     2,
		"a -- ''\n ''":                9,
		"a {- '' -} ''":               11,
		"'a' \"''\" 'b '":             9,
		"\x00 ''":                     0,
		"'' \x00":                     3,
		"a \r":                        2,
		"-- \x7f":                     3,
		"\"\x80\"":                    1,
		"{- \x1f -}":                  3,
		"{- \xff":                     3,
	})
}

func TestLength(t *testing.T) {
	long := strings.Repeat("a", api.MaxSource)
	checkLexed(t, []lexed{{long, []api.Token{name(long)}}})
	got, f := lex.All(strings.Repeat(";", api.MaxSource))
	if f != (api.Fault{}) || len(got) != api.MaxSource || got[api.MaxSource-1].At != api.MaxSource-1 {
		t.Errorf("All of the longest text: %d tokens, %v", len(got), f)
	}
	for _, s := range []string{long + "a", long + "\x00", "\x00" + long, long + "\n", strings.Repeat("'", api.MaxSource+1)} {
		got, f := lex.All(s)
		if len(got) != 0 || f != (api.Fault{Err: api.ErrLong, At: -1}) {
			t.Errorf("All of %d bytes: %d tokens, %v", len(s), len(got), f)
		}
	}
	checkFaults(t, map[string]int{
		"\"" + strings.Repeat("a", api.MaxSource-1):     0,
		" {-" + strings.Repeat("{-", api.MaxSource/2-2): 1,
		strings.Repeat("9", api.MaxSource):              0,
		strings.Repeat("'a'", 100) + "''":               300,
	})
}

func TestPlaces(t *testing.T) {
	got, f := lex.All("f x\n  y {- \n -} z -- u\n\tv\n1\tw 'a'\n\n \"b\\\n\\\" c\n\"\" d")
	want := []api.Token{
		{Kind: api.TokName, Text: "f", At: 0, Line: 1, Col: 1, First: true},
		{Kind: api.TokName, Text: "x", At: 2, Line: 1, Col: 3},
		{Kind: api.TokName, Text: "y", At: 6, Line: 2, Col: 3, First: true},
		{Kind: api.TokName, Text: "z", At: 16, Line: 3, Col: 5, First: true},
		{Kind: api.TokName, Text: "v", At: 24, Line: 4, Col: 9, First: true},
		{Kind: api.TokInt, Num: 1, At: 26, Line: 5, Col: 1, First: true},
		{Kind: api.TokName, Text: "w", At: 28, Line: 5, Col: 9},
		{Kind: api.TokChar, Num: 97, At: 30, Line: 5, Col: 11},
		{Kind: api.TokString, Text: "b", At: 36, Line: 7, Col: 2, First: true},
		{Kind: api.TokName, Text: "c", At: 43, Line: 8, Col: 4, First: true},
		{Kind: api.TokString, At: 45, Line: 9, Col: 1, First: true},
		{Kind: api.TokName, Text: "d", At: 48, Line: 9, Col: 4},
	}
	if f != (api.Fault{}) || !slices.Equal(got, want) {
		t.Errorf("All = %v, %v,\nwant %v", got, f, want)
	}
}

func rowNine() []string {
	return []string{"case", "data", "do", "else", "if", "in", "infix", "infixl", "infixr", "let", "of", "then", "where", "_"}
}

func rowTen() []string {
	return []string{"..", "=", `\`, "|", "<-", "->", "@", "~"}
}

// changed are texts that are told from one by a byte: one more, ahead or behind, one less, another case.
func changed(s string, with []string) []string {
	var all []string
	for _, c := range with {
		all = append(all, s+c, c+s)
	}
	return append(all, s[1:], s[:len(s)-1], strings.ToUpper(s), " "+s, s+" ")
}

func TestWord(t *testing.T) {
	others := []string{"", "type", "module", "import", "class", "a", "main", "=", "..", "(", "0", "casecase", "case of"}
	for _, w := range rowNine() {
		if !lex.Word(w) || lex.Sign(w) {
			t.Errorf("Word(%q) = %v, Sign(%q) = %v", w, lex.Word(w), w, lex.Sign(w))
		}
		checkLexed(t, []lexed{{w, []api.Token{tok(api.TokWord, w)}}, {w + "0", []api.Token{name(w + "0")}}, {w + "'", []api.Token{name(w + "'")}}, {"a" + w, []api.Token{name("a" + w)}}})
		others = append(others, changed(w, []string{"a", "l", "r", "_", "'", "0"})...)
	}
	for _, s := range others {
		if want := slices.Contains(rowNine(), s); lex.Word(s) != want {
			t.Errorf("Word(%q) = %v", s, !want)
		}
	}
}

func TestSign(t *testing.T) {
	others := []string{"", ":", "::", "-", "=>", "+", "--", "a", "case", "_", "(", "||", "@@"}
	for _, w := range rowTen() {
		if !lex.Sign(w) || lex.Word(w) {
			t.Errorf("Sign(%q) = %v, Word(%q) = %v", w, lex.Sign(w), w, lex.Word(w))
		}
		checkLexed(t, []lexed{{w, []api.Token{sign(w)}}, {w + "!", []api.Token{op(w + "!")}}, {"!" + w, []api.Token{op("!" + w)}}, {":" + w, []api.Token{tok(api.TokConOp, ":"+w)}}})
		others = append(others, changed(w, []string{".", "=", "-", ">", "<", "|", "a"})...)
	}
	for _, s := range others {
		if want := slices.Contains(rowTen(), s); lex.Sign(s) != want {
			t.Errorf("Sign(%q) = %v", s, !want)
		}
	}
}

func TestSymbol(t *testing.T) {
	for c := range 256 {
		want := slices.Contains([]byte{'!', '#', '$', '%', '&', '*', '+', '.', '/', '<', '=', '>', '?', '@', '\\', '^', '|', '-', '~', ':'}, byte(c))
		if lex.Symbol(byte(c)) != want {
			t.Errorf("Symbol(%d) = %v", c, !want)
		}
	}
}

func TestText(t *testing.T) {
	for _, r := range []struct {
		token api.Token
		want  string
	}{
		{name("a'"), "a'"},
		{tok(api.TokCon, "A"), "A"},
		{op("+"), "+"},
		{tok(api.TokConOp, ":+"), ":+"},
		{mark("("), "("},
		{tok(api.TokWord, "of"), "of"},
		{sign("->"), "->"},
		{name(""), ""},
		{name("no name"), "no name"},
		{api.Token{Kind: api.TokName, Text: "a", Num: 5, At: 3, Line: 2, Col: 4, First: true}, "a"},
		{integer(0), "0"},
		{integer(31), "31"},
		{integer(math.MaxInt64), "9223372036854775807"},
		{integer(-1), "0"},
		{integer(math.MinInt64), "0"},
		{api.Token{Kind: api.TokInt, Num: 256, Text: "7"}, "256"},
		{char('a'), "'a'"},
		{char(' '), "' '"},
		{char('~'), "'~'"},
		{char('"'), `'"'`},
		{char('\''), `'\''`},
		{char('\\'), `'\\'`},
		{char(0), `'\0'`},
		{char(10), `'\10'`},
		{char(31), `'\31'`},
		{char(127), `'\127'`},
		{char(255), `'\255'`},
		{char(-1), `'\0'`},
		{char(math.MinInt64), `'\0'`},
		{char(256), `'\255'`},
		{char(256 + 65), `'\255'`},
		{char(math.MaxInt64), `'\255'`},
		{api.Token{Kind: api.TokChar, Num: 65, Text: "7"}, "'A'"},
		{str(""), `""`},
		{str("a b~"), `"a b~"`},
		{str("'"), `"'"`},
		{str("\"\\"), `"\"\\"`},
		{str("\n1\x00\x1f\x7f\x80\xff"), `"\10\&1\0\&\31\&\127\&\128\&\255\&"`},
		{str("\u00e9"), `"\195\&\169\&"`},
		{api.Token{Kind: api.TokString, Num: 65, Text: "7"}, `"7"`},
		{tok(0, "a"), ""},
		{tok(-1, "a"), ""},
		{tok(11, "a"), ""},
		{api.Token{Kind: math.MaxInt, Text: "a", Num: 1}, ""},
		{api.Token{Kind: math.MinInt, Text: "a", Num: 1}, ""},
		{api.Token{}, ""},
	} {
		if got := lex.Text(r.token); got != r.want {
			t.Errorf("Text(%v) = %q, want %q", r.token, got, r.want)
		}
	}
}

func TestJoin(t *testing.T) {
	for _, r := range []struct {
		tokens []api.Token
		want   string
	}{
		{nil, ""},
		{[]api.Token{}, ""},
		{[]api.Token{name("a")}, "a"},
		{[]api.Token{name("f"), integer(-3), char(300), str("\x01"), mark(";")}, `f 0 '\255' "\1\&" ;`},
		{[]api.Token{tok(0, "a"), name("b"), tok(99, "c"), tok(0, "")}, " b  "},
		{[]api.Token{{}, {}}, " "},
	} {
		if got := lex.Join(r.tokens); got != r.want {
			t.Errorf("Join(%v) = %q, want %q", r.tokens, got, r.want)
		}
	}
}

// What is handed in stays as it is, and two answers are two.
func TestAnswersAreNew(t *testing.T) {
	one, _ := lex.All("a b c")
	two, _ := lex.All("a b c")
	kept := slices.Clone(two)
	for i := range one {
		one[i] = api.Token{}
	}
	_ = append(one[:1], api.Token{}, api.Token{})
	if !slices.Equal(two, kept) {
		t.Errorf("an answer changed: %v", two)
	}
	lex.Join(two)
	if !slices.Equal(two, kept) {
		t.Errorf("Join changed its tokens: %v", two)
	}
}
