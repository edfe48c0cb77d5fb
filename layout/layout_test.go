package layout_test

import (
	"math"
	"slices"
	"strings"
	"testing"

	"thunkmill/api"
	"thunkmill/layout"
	"thunkmill/lex"
)

// tell writes what came, implied ones in < >.
func tell(l []api.Lexeme) string {
	all := make([]string, len(l))
	for i, x := range l {
		all[i] = lex.Text(x.Token)
		if x.Implied {
			all[i] = "<" + x.Token.Text + ">"
		}
	}
	return strings.Join(all, " ")
}

func tokens(t *testing.T, text string) []api.Token {
	t.Helper()
	l, f := lex.All(text)
	if f != (api.Fault{}) {
		t.Fatalf("All(%q): %v", text, f)
	}
	return l
}

// told is a text and what comes of it.
type told struct {
	text, want string
}

func checkTold(t *testing.T, rows []told) {
	t.Helper()
	for _, r := range rows {
		got, f := layout.All(tokens(t, r.text), len(r.text))
		if tell(got) != r.want || f != (api.Fault{}) {
			t.Errorf("All(%q) = %s, %v, want %s", r.text, tell(got), f, r.want)
		}
	}
}

// checkWrong holds texts to the places at which their layout is wrong.
func checkWrong(t *testing.T, rows map[string]int) {
	t.Helper()
	for text, at := range rows {
		got, f := layout.All(tokens(t, text), len(text))
		if len(got) != 0 || f != (api.Fault{Err: api.ErrLayout, At: at}) {
			t.Errorf("All(%q) = %s, %v, want ErrLayout at %d", text, tell(got), f, at)
		}
	}
}

// took takes n lexemes, each of which must be there.
func took(t *testing.T, s *layout.Stream, n int) string {
	t.Helper()
	var all []api.Lexeme
	for range n {
		x, e := s.Take()
		if e != api.OK {
			t.Fatalf("Take behind %s: %v", tell(all), e)
		}
		all = append(all, x)
	}
	return tell(all)
}

// streamBehind is a text's stream, once n lexemes have been taken.
func streamBehind(t *testing.T, text string, n int) *layout.Stream {
	t.Helper()
	s := layout.New(tokens(t, text), len(text))
	took(t, s, n)
	return s
}

// checkRest takes all that is left, up to the end.
func checkRest(t *testing.T, s *layout.Stream, want string) {
	t.Helper()
	var all []api.Lexeme
	x, e := s.Take()
	for ; e == api.OK; x, e = s.Take() {
		all = append(all, x)
	}
	if tell(all) != want || e != api.ErrOver || x != (api.Lexeme{}) {
		t.Errorf("the rest: %s, then %v, %v, want %s, then ErrOver", tell(all), x, e, want)
	}
}

func checkBlocks(t *testing.T, s *layout.Stream, want ...int) {
	t.Helper()
	if got := s.Blocks(); !slices.Equal(got, want) {
		t.Errorf("Blocks() = %v, want %v", got, want)
	}
}

func TestExamplesOfTheChapter(t *testing.T) {
	checkTold(t, []told{
		{"a\nb", "<{> a <;> b <}>"},
		{"let x\ny in z", "<{> let <{> x <}> <;> y in z <}>"},
		{"do { a ; b }", "<{> do { a ; b } <}>"},
		{"of", "<{> of <{> <}> <}>"},
	})
	checkWrong(t, map[string]int{"}": 0})
}

func TestWordsThatOpen(t *testing.T) {
	for _, w := range []string{"let", "where", "do", "of"} {
		checkTold(t, []told{
			{w, "<{> " + w + " <{> <}> <}>"},
			{w + " a", "<{> " + w + " <{> a <}> <}>"},
			{w + "\n a", "<{> " + w + " <{> a <}> <}>"},
			{w + " {}", "<{> " + w + " { } <}>"},
			{w + "\n {}", "<{> " + w + " { } <}>"},
			{w + " a\n" + strings.Repeat(" ", len(w)+1) + "b", "<{> " + w + " <{> a <;> b <}> <}>"},
			{"{" + w + " {}}", "{ " + w + " { } }"},
			{"{} " + w, "{ } " + w + " <{> <}>"},
		})
		checkWrong(t, map[string]int{
			w + " {":        len(w) + 2,
			"{ " + w:        len(w) + 2,
			"{ " + w + " }": len(w) + 3,
		})
	}
	for _, w := range []string{"case", "data", "else", "if", "in", "infix", "infixl", "infixr", "then", "_", "lets", "Do", `"do"`, "'d'", "="} {
		checkTold(t, []told{
			{w, "<{> " + w + " <}>"},
			{w + "\n a", "<{> " + w + " a <}>"},
			{"{" + w + "}", "{ " + w + " }"},
		})
	}
}

// A word is one that opens, and a mark a brace, by its kind and its text, both.
func TestKindsCount(t *testing.T) {
	for kind := -1; kind <= 11; kind++ {
		for _, text := range []string{"let", "where", "do", "of", "{", "}"} {
			if kind == api.TokWord && len(text) > 1 || kind == api.TokMark && len(text) == 1 {
				continue
			}
			l := []api.Token{{Kind: kind, Text: text, Col: 1, At: 3}, {Kind: api.TokName, Text: "a", Col: 2, At: 9, First: true}}
			want := []api.Lexeme{implied("{", 3), {Token: l[0]}, {Token: l[1]}, implied("}", 12)}
			checkAll(t, l, 12, want)
			l = []api.Token{{Kind: api.TokWord, Text: "do", Col: 1}, {Kind: kind, Text: text, Col: 2, At: 3}}
			want = []api.Lexeme{implied("{", 0), {Token: l[0]}, implied("{", 3), {Token: l[1]}, implied("}", 4), implied("}", 4)}
			checkAll(t, l, 4, want)
		}
	}
}

func implied(mark string, at int) api.Lexeme {
	return api.Lexeme{Token: api.Token{Kind: api.TokMark, Text: mark, At: at}, Implied: true}
}

func checkAll(t *testing.T, l []api.Token, end int, want []api.Lexeme) {
	t.Helper()
	if got, f := layout.All(l, end); !slices.Equal(got, want) || f != (api.Fault{}) {
		t.Errorf("All(%v, %d) = %v, %v,\nwant %v", l, end, got, f, want)
	}
}

func TestColumns(t *testing.T) {
	checkTold(t, []told{
		{"a\n b\nc", "<{> a b <;> c <}>"},
		{"  a\n  b", "<{> a <;> b <}>"},
		{"\n\n\ta\n        b", "<{> a <;> b <}>"},
		{"  a\n b\n  c", "<{> a <}> b c"},
		{"  a\n b\n  c do\n d", "<{> a <}> b c do <{> d <}>"},
		{"a; b\n; c", "<{> a ; b <;> ; c <}>"},
		{"f = x\n where x = 1\n       y = 2\ng", "<{> f = x where <{> x = 1 <;> y = 2 <}> <;> g <}>"},
		{"do a\n   do b\n      c\n   d\ne", "<{> do <{> a <;> do <{> b <;> c <}> <;> d <}> <;> e <}>"},
		{"do a\n   do b\n      do c\n d", "<{> do <{> a <;> do <{> b <;> do <{> c <}> <}> <}> d <}>"},
		{"do a\n   do b\n    c", "<{> do <{> a <;> do <{> b <}> c <}> <}>"},
		{"do do do a", "<{> do <{> do <{> do <{> a <}> <}> <}> <}>"},
	})
}

// A mark {n} that is not above the column of the block in which it stands.
func TestEmptyBlocks(t *testing.T) {
	checkTold(t, []told{
		{"do\na", "<{> do <{> <}> <;> a <}>"},
		{" do\na", "<{> do <{> <}> <}> a"},
		{" a where\n b", "<{> a where <{> <}> <;> b <}>"},
		{"do do\n   a", "<{> do <{> do <{> <}> <;> a <}> <}>"},
		{"do do\n a", "<{> do <{> do <{> <}> <}> a <}>"},
		{"do do\na", "<{> do <{> do <{> <}> <}> <;> a <}>"},
		{"do do", "<{> do <{> do <{> <}> <}> <}>"},
		{"do\ndo\ndo", "<{> do <{> <}> <;> do <{> <}> <;> do <{> <}> <}>"},
		{"let\n{}", "<{> let <;> { } <}>"},
		{" let\n{}", "<{> let <}> { }"},
	})
	s := streamBehind(t, "do\na", 3)
	checkBlocks(t, s, 1)
	if got := took(t, s, 1); got != "<}>" {
		t.Errorf("behind an empty block's brace: %s", got)
	}
	checkBlocks(t, s, 1)
	checkRest(t, s, "<;> a <}>")
}

func TestBraces(t *testing.T) {
	checkTold(t, []told{
		{"{}", "{ }"},
		{"{a\nb\n c}", "{ a b c }"},
		{" {\na\n}", "{ a }"},
		{"{a}\nb\n c", "{ a } b c"},
		{"{a}{b}", "{ a } { b }"},
		{"{do{a;let{b}};c}", "{ do { a ; let { b } } ; c }"},
		{"a{b\nc}\nd", "<{> a { b c } <;> d <}>"},
		{"a\n{\nb\n}\nc", "<{> a <;> { b } <;> c <}>"},
		{"a\n {\nb\n}", "<{> a { b } <}>"},
		{"{} do\na", "{ } do <{> a <}>"},
		{"{do a\n}", "{ do <{> a <}> }"},
		{"{{a do\n b\n}}", "{ { a do <{> b <}> } }"},
	})
	checkWrong(t, map[string]int{
		"a }":        2,
		"{}}":        2,
		"{ a } b }":  8,
		"{":          1,
		"{ ":         2,
		"{a\n":       3,
		"a {":        3,
		"a { do b }": 9,
		"{{}":        3,
		"{do{}":      5,
		"{do a":      5,
		"a { b":      5,
		"do {a do}":  8,
		"do {do\na}": 8,
		"{do":        3,
		"a\n}":       2,
		" a\n}":      3,
		"a {\n}}":    5,
	})
}

func TestNoTokens(t *testing.T) {
	for _, end := range []int{0, 1, 65536, -1, math.MinInt, math.MaxInt} {
		want := []api.Lexeme{implied("{", end), implied("}", end)}
		checkAll(t, nil, end, want)
		checkAll(t, []api.Token{}, end, want)
		s := layout.New(nil, end)
		checkBlocks(t, s)
		if got := took(t, s, 1); got != "<{>" {
			t.Errorf("of no tokens: %s", got)
		}
		checkBlocks(t, s)
		checkRest(t, s, "<}>")
	}
}

// Implied ones have the place of the token ahead of which they stand, and nothing else of it.
func TestPlaces(t *testing.T) {
	text := " do a\n    do\n  b\n c "
	l := tokens(t, text)
	want := []api.Lexeme{
		implied("{", 1), {Token: l[0]},
		implied("{", 4), {Token: l[1]},
		implied(";", 10), {Token: l[2]}, implied("{", 15), implied("}", 15), implied("}", 15), {Token: l[3]},
		implied(";", 18), {Token: l[4]},
		implied("}", 77),
	}
	checkAll(t, l, 77, want)
	checkAll(t, l[:1], -5, []api.Lexeme{implied("{", 1), {Token: l[0]}, implied("{", -5), implied("}", -5), implied("}", -5)})
}

// Tokens may say anything of themselves: what counts is what they say.
func TestTokensThatSayAnything(t *testing.T) {
	a := func(col int, first bool) api.Token {
		return api.Token{Kind: api.TokName, Text: "a", Num: -3, At: -col, Line: 7, Col: col, First: first}
	}
	do := func(col int, first bool) api.Token {
		return api.Token{Kind: api.TokWord, Text: "do", Num: 4, At: col, Line: -1, Col: col, First: first}
	}
	rows := []struct {
		l    []api.Token
		want string
	}{
		{[]api.Token{a(3, false), a(3, false), a(1, false)}, "<{> a a a <}>"},
		{[]api.Token{a(3, true), a(3, true), a(3, true)}, "<{> a <;> a <;> a <}>"},
		{[]api.Token{a(3, true), a(0, true), a(-1, true)}, "<{> a <}> a a"},
		{[]api.Token{a(0, true), a(0, true)}, "<{> <}> a a"},
		{[]api.Token{a(-2, false), a(-2, true)}, "<{> <}> a a"},
		{[]api.Token{do(0, true), a(0, true)}, "<{> <}> do <{> <}> a"},
		{[]api.Token{do(0, true), a(1, false)}, "<{> <}> do <{> a <}>"},
		{[]api.Token{do(5, false), a(5, false), a(5, true)}, "<{> do <{> <}> <;> a <;> a <}>"},
		{[]api.Token{do(5, false), a(4, false), a(5, true)}, "<{> do <{> <}> <}> a a"},
		{[]api.Token{do(5, false), a(6, false), a(5, true)}, "<{> do <{> a <}> <;> a <}>"},
		{[]api.Token{do(5, false), do(math.MaxInt, true), a(math.MaxInt, true)}, "<{> do <{> do <{> <}> <;> a <}> <}>"},
		{[]api.Token{do(1, false), a(math.MinInt, false), a(math.MinInt, true)}, "<{> do <{> <}> <}> a a"},
		{[]api.Token{do(1, true), do(2, true), do(3, true), a(math.MinInt, true)}, "<{> do <{> do <{> do <{> <}> <}> <}> <}> a"},
	}
	for _, r := range rows {
		got, f := layout.All(r.l, 9)
		if tell(got) != r.want || f != (api.Fault{}) {
			t.Errorf("All(%v) = %s, %v, want %s", r.l, tell(got), f, r.want)
		}
		if left := fromText(got); !slices.Equal(left, r.l) {
			t.Errorf("All(%v) has the tokens %v", r.l, left)
		}
	}
}

// fromText are the tokens that are not implied.
func fromText(l []api.Lexeme) []api.Token {
	var all []api.Token
	for _, x := range l {
		if !x.Implied {
			all = append(all, x.Token)
		}
	}
	return all
}

func TestPeekAndTake(t *testing.T) {
	text := "do a\n   b"
	l := tokens(t, text)
	s := layout.New(l, len(text))
	want := []api.Lexeme{implied("{", 0), {Token: l[0]}, implied("{", 3), {Token: l[1]}, implied(";", 8), {Token: l[2]}, implied("}", 9), implied("}", 9)}
	blocks := [][]int{nil, {1}, {1}, {4, 1}, {4, 1}, {4, 1}, {4, 1}, {1}}
	for i, w := range want {
		for range 3 {
			if x, e := s.Peek(); x != w || e != api.OK {
				t.Errorf("Peek %d: %v, %v, want %v", i, x, e, w)
			}
		}
		checkBlocks(t, s, blocks[i]...)
		if at := s.Wrong(); at != -1 {
			t.Errorf("Wrong %d: %d", i, at)
		}
		if x, e := s.Take(); x != w || e != api.OK {
			t.Errorf("Take %d: %v, %v, want %v", i, x, e, w)
		}
	}
	checkOver(t, s)
}

// checkOver holds a stream to be over, however often it is asked.
func checkOver(t *testing.T, s *layout.Stream) {
	t.Helper()
	for range 2 {
		checkBlocks(t, s)
		if x, e := s.Peek(); x != (api.Lexeme{}) || e != api.ErrOver {
			t.Errorf("Peek of what is over: %v, %v", x, e)
		}
		if x, e := s.Take(); x != (api.Lexeme{}) || e != api.ErrOver {
			t.Errorf("Take of what is over: %v, %v", x, e)
		}
		if e := s.Close(); e != api.ErrOver {
			t.Errorf("Close of what is over: %v", e)
		}
		if at := s.Wrong(); at != -1 {
			t.Errorf("Wrong of what is over: %d", at)
		}
	}
}

// Where the layout is wrong it stays so, however often that is asked, and nothing changes.
func TestWhereItIsWrong(t *testing.T) {
	rows := []struct {
		text   string
		before int
		at     int
		blocks []int
	}{
		{"}", 1, 0, []int{1}},
		{"a }", 2, 2, []int{1}},
		{"{}}", 2, 2, nil},
		{"{ a", 2, 3, []int{0}},
		{"a {", 3, 3, []int{0, 1}},
		{"{ do a }", 4, 7, []int{6, 0}},
		{"{ do", 4, 4, []int{0}},
		{"a\n}", 3, 2, []int{1}},
		{" a\n}", 3, 3, nil},
	}
	for _, r := range rows {
		s := streamBehind(t, r.text, r.before)
		for range 3 {
			if x, e := s.Peek(); x != (api.Lexeme{}) || e != api.ErrLayout {
				t.Errorf("%q: Peek = %v, %v", r.text, x, e)
			}
			if x, e := s.Take(); x != (api.Lexeme{}) || e != api.ErrLayout {
				t.Errorf("%q: Take = %v, %v", r.text, x, e)
			}
			if at := s.Wrong(); at != r.at {
				t.Errorf("%q: Wrong = %d", r.text, at)
			}
			checkBlocks(t, s, r.blocks...)
		}
	}
	// The mark ahead of the brace counts first.
	s := streamBehind(t, "a\n}", 2)
	if x, e := s.Peek(); x != implied(";", 2) || e != api.OK || s.Wrong() != -1 {
		t.Errorf("ahead of a wrong brace: %v, %v, %d", x, e, s.Wrong())
	}
}

// checkClose holds Close to an error, which changes nothing.
func checkClose(t *testing.T, s *layout.Stream, want api.Errno) {
	t.Helper()
	blocks := s.Blocks()
	x, e := s.Peek()
	if got := s.Close(); got != want {
		t.Errorf("Close = %v, want %v", got, want)
	}
	if want == api.OK {
		return
	}
	checkBlocks(t, s, blocks...)
	if y, g := s.Peek(); y != x || g != e {
		t.Errorf("Peek behind Close: %v, %v, ahead of it %v, %v", y, g, x, e)
	}
}

func TestClose(t *testing.T) {
	s := streamBehind(t, "let x in y", 4)
	checkBlocks(t, s, 5, 1)
	checkClose(t, s, api.OK)
	checkBlocks(t, s, 1)
	if x, e := s.Peek(); x != implied("}", 6) || e != api.OK {
		t.Errorf("behind Close: %v, %v", x, e)
	}
	checkRest(t, s, "<}> in y <}>")

	// The rest stays as it is: the marks that are left are held to the outer block.
	s = streamBehind(t, "do a\n   b", 4)
	checkClose(t, s, api.OK)
	checkRest(t, s, "<}> b <}>")
	s = streamBehind(t, "do a\nb", 4)
	checkClose(t, s, api.OK)
	checkRest(t, s, "<}> <;> b <}>")
	s = streamBehind(t, "a do\n b", 3)
	checkClose(t, s, api.OK)
	checkRest(t, s, "<}> <{> b <}>")
	s = streamBehind(t, "  a do\n b", 3)
	checkClose(t, s, api.OK)
	checkRest(t, s, "<}> <{> b <}>")

	// A brace that was wrong fits once the blocks within are closed.
	s = streamBehind(t, "{ do do a }", 6)
	if at := s.Wrong(); at != 10 {
		t.Errorf("Wrong ahead of Close: %d", at)
	}
	checkClose(t, s, api.OK)
	if at := s.Wrong(); at != -1 {
		t.Errorf("Wrong behind Close: %d", at)
	}
	took(t, s, 1)
	if at := s.Wrong(); at != 10 {
		t.Errorf("Wrong at the outer block: %d", at)
	}
	checkClose(t, s, api.OK)
	checkRest(t, s, "<}> }")
}

// Blocks end as soon as they are closed, and their braces come one by one.
func TestCloseMoreThanOne(t *testing.T) {
	s := streamBehind(t, "do do a", 6)
	checkBlocks(t, s, 7, 4, 1)
	checkClose(t, s, api.OK)
	checkBlocks(t, s, 4, 1)
	checkClose(t, s, api.OK)
	checkBlocks(t, s, 1)
	checkClose(t, s, api.OK)
	checkBlocks(t, s)
	checkClose(t, s, api.ErrState)
	checkRest(t, s, "<}> <}> <}>")
	checkOver(t, s)

	// An empty block's brace, too, is still to come.
	s = streamBehind(t, "do\nb", 3)
	checkClose(t, s, api.OK)
	checkClose(t, s, api.ErrState)
	checkRest(t, s, "<}> <}> b")
}

func TestCloseThatMayNotBe(t *testing.T) {
	rows := []struct {
		text   string
		before int
		want   api.Errno
	}{
		{"", 0, api.ErrState},
		{"", 1, api.ErrState},
		{"", 2, api.ErrOver},
		{"a", 0, api.ErrState},
		{"a", 3, api.ErrOver},
		{"{a}b", 0, api.ErrState},
		{"{a}b", 1, api.ErrState},
		{"{a}b", 2, api.ErrState},
		{"{a}b", 3, api.ErrState},
		{"{a}b", 4, api.ErrOver},
		{"a {b", 3, api.ErrState},
		{"a {b", 4, api.ErrState},
		{"{do", 3, api.ErrState},
		{"{}}", 2, api.ErrState},
		{" a\nb", 3, api.ErrState},
	}
	for _, r := range rows {
		checkClose(t, streamBehind(t, r.text, r.before), r.want)
	}
}

func TestStreamsThatNobodyMade(t *testing.T) {
	for _, s := range []*layout.Stream{nil, {}, new(layout.Stream)} {
		for range 2 {
			if x, e := s.Peek(); x != (api.Lexeme{}) || e != api.ErrNil {
				t.Errorf("Peek = %v, %v", x, e)
			}
			if x, e := s.Take(); x != (api.Lexeme{}) || e != api.ErrNil {
				t.Errorf("Take = %v, %v", x, e)
			}
			if e := s.Close(); e != api.ErrNil {
				t.Errorf("Close = %v", e)
			}
			if l := s.Blocks(); len(l) != 0 {
				t.Errorf("Blocks = %v", l)
			}
			if at := s.Wrong(); at != 0 {
				t.Errorf("Wrong = %d", at)
			}
		}
	}
}

// The stream heeds neither what becomes of the tokens that it was handed nor of the blocks that it answered.
func TestMemory(t *testing.T) {
	text := "do a\n   b\nc"
	room := append(tokens(t, text), api.Token{Kind: api.TokMark, Text: "}"})
	l := room[:len(room)-1]
	s := layout.New(l, len(text))
	spoil := func() {
		for i := range room {
			room[i] = api.Token{Kind: api.TokMark, Text: "}", Col: 1, First: true}
		}
		for range 2 {
			b := s.Blocks()
			for i := range b {
				b[i] = 77
			}
			_ = append(b, 88, 99)
		}
	}
	want := strings.Fields("<{> do <{> a <;> b <}> <;> c <}>")
	for i, w := range want {
		spoil()
		if got := took(t, s, 1); got != w {
			t.Errorf("lexeme %d: %s, want %s", i, got, w)
		}
	}
	spoil()
	checkOver(t, s)

	l = tokens(t, text)
	kept := slices.Clone(l)
	one, _ := layout.All(l, len(text))
	two, _ := layout.All(l, len(text))
	if !slices.Equal(l, kept) {
		t.Errorf("All changed its tokens: %v", l)
	}
	clear(one)
	_ = append(one, one...)
	if tell(two) != strings.Join(want, " ") {
		t.Errorf("one answer is the other's: %s", tell(two))
	}
}

// Two streams of the same tokens are two.
func TestStreamsApart(t *testing.T) {
	l := tokens(t, "do a")
	s, u := layout.New(l, 4), layout.New(l, 4)
	took(t, s, 4)
	checkBlocks(t, u)
	checkClose(t, s, api.OK)
	checkRest(t, u, "<{> do <{> a <}> <}>")
	checkRest(t, s, "<}> <}>")
}

// Many tokens, and blocks nested as deep as they can be, take no more than their time.
func TestDeep(t *testing.T) {
	const n = 1 << 16
	l := make([]api.Token, n)
	for i := range l {
		l[i] = api.Token{Kind: api.TokWord, Text: "do", At: i, Col: i + 1, First: true}
	}
	got, f := layout.All(l, n)
	if f != (api.Fault{}) || len(got) != 3*n+2 {
		t.Errorf("All of nested blocks: %d lexemes, %v", len(got), f)
	}
	s := layout.New(l, n)
	took(t, s, 2*n)
	if b := s.Blocks(); len(b) != n || b[0] != n || b[n-1] != 1 {
		t.Errorf("Blocks of nested blocks: %d", len(b))
	}
	for i := range n {
		if e := s.Close(); e != api.OK {
			t.Fatalf("Close %d: %v", i, e)
		}
	}
	checkClose(t, s, api.ErrState)
	for i := range l {
		l[i] = api.Token{Kind: api.TokMark, Text: "{", At: i, Col: 1, First: true}
	}
	if got, f := layout.All(l, n); len(got) != 0 || f != (api.Fault{Err: api.ErrLayout, At: n}) {
		t.Errorf("All of braces: %d lexemes, %v", len(got), f)
	}
}
