package layout_test

import (
	"slices"
	"testing"

	"thunkmill/api"
	"thunkmill/layout"
)

// piece is a mark or a token of the list that the chapter's rules work on: 'b' the mark {n}, 'l' the mark <n>, 't' a token, 'c' a brace that Close asked for.
type piece struct {
	kind  byte
	n     int
	token api.Token
	at    int
}

// pieces lays all marks between the tokens, ahead of any reading.
func pieces(l []api.Token, end int) []piece {
	var all []piece
	due := true
	for _, t := range l {
		brace := t.Kind == api.TokMark && t.Text == "{"
		switch {
		case due && !brace:
			all = append(all, piece{kind: 'b', n: t.Col, at: t.At})
		case t.First:
			all = append(all, piece{kind: 'l', n: t.Col, at: t.At})
		}
		all = append(all, piece{kind: 't', token: t, at: t.At})
		due = t.Kind == api.TokWord && slices.Contains([]string{"let", "where", "do", "of"}, t.Text)
	}
	if due {
		all = append(all, piece{kind: 'b', at: end})
	}
	return all
}

// standing is how the reference stands: what is left, and the blocks, the innermost one first.
type standing struct {
	left   []piece
	blocks []int
	end    int
}

func (v standing) place() int {
	if len(v.left) == 0 {
		return v.end
	}
	return v.left[0].at
}

func (v standing) with(blocks []int, ahead ...piece) standing {
	v.left = append(ahead, v.left[1:]...)
	v.blocks = blocks
	return v
}

// next is the chapter's 'what comes next', rule by rule.
func (v standing) next() (api.Lexeme, api.Errno, standing) {
	m, some := 0, len(v.blocks) > 0
	if some {
		m = v.blocks[0]
	}
	at := v.place()
	if len(v.left) == 0 {
		switch {
		case m > 0:
			return implied("}", at), api.OK, standing{blocks: v.blocks[1:], end: v.end}
		case some:
			return api.Lexeme{}, api.ErrLayout, v
		}
		return api.Lexeme{}, api.ErrOver, v
	}
	p := v.left[0]
	begun := func(n int) []int { return append([]int{n}, v.blocks...) }
	switch {
	case p.kind == 'c':
		return implied("}", at), api.OK, v.with(v.blocks)
	case p.kind == 'l' && m > 0 && m == p.n:
		return implied(";", at), api.OK, v.with(v.blocks)
	case p.kind == 'l' && m > 0 && m > p.n:
		return implied("}", at), api.OK, v.with(v.blocks[1:], p)
	case p.kind == 'l':
		return v.with(v.blocks).next()
	case p.kind == 'b' && p.n > m:
		return implied("{", at), api.OK, v.with(begun(p.n))
	case p.kind == 'b':
		return implied("{", at), api.OK, v.with(v.blocks, piece{kind: 'c', at: at}, piece{kind: 'l', n: p.n, at: at})
	case p.token.Kind == api.TokMark && p.token.Text == "}" && (!some || m > 0):
		return api.Lexeme{}, api.ErrLayout, v
	case p.token.Kind == api.TokMark && p.token.Text == "}":
		return api.Lexeme{Token: p.token}, api.OK, v.with(v.blocks[1:])
	case p.token.Kind == api.TokMark && p.token.Text == "{":
		return api.Lexeme{Token: p.token}, api.OK, v.with(begun(0))
	}
	return api.Lexeme{Token: p.token}, api.OK, v.with(v.blocks)
}

// closed is the chapter's 'to close'.
func (v standing) closed() (api.Errno, standing) {
	if _, e, _ := v.next(); e == api.ErrOver {
		return api.ErrOver, v
	}
	if len(v.blocks) == 0 || v.blocks[0] == 0 {
		return api.ErrState, v
	}
	v.left = append([]piece{{kind: 'c', at: v.place()}}, v.left...)
	v.blocks = v.blocks[1:]
	return api.OK, v
}

// checkStanding holds all that a stream can be asked, without its going on, to the reference.
func checkStanding(t *testing.T, s *layout.Stream, v standing) {
	t.Helper()
	want, e, _ := v.next()
	wrong := -1
	if e == api.ErrLayout {
		wrong = wrongAt(v)
	}
	x, g := s.Peek()
	if x != want || g != e || s.Wrong() != wrong || !slices.Equal(s.Blocks(), v.blocks) {
		t.Errorf("%v: Peek = %v, %v, Wrong = %d, Blocks = %v", v, x, g, s.Wrong(), s.Blocks())
	}
}

// checkRun reads a stream, closing where a bit of closings is set, beside the reference.
func checkRun(t *testing.T, l []api.Token, end int, closings uint) {
	t.Helper()
	s := layout.New(l, end)
	v := standing{left: pieces(l, end), end: end}
	for ; ; closings >>= 1 {
		checkStanding(t, s, v)
		var want api.Errno
		if closings&1 == 1 {
			want, v = v.closed()
			if e := s.Close(); e != want {
				t.Errorf("%v: Close = %v, want %v", v, e, want)
			}
			continue
		}
		var x api.Lexeme
		x, want, v = v.next()
		if y, e := s.Take(); y != x || e != want {
			t.Errorf("%v: Take = %v, %v, want %v, %v", v, y, e, x, want)
		}
		if want != api.OK && closings == 0 {
			checkStanding(t, s, v)
			return
		}
	}
}

// everyToken are tokens of each text, in each column, the first of their line or not.
func everyToken(texts []string, cols []int) []api.Token {
	kinds := map[string]int{"a": api.TokName, "of": api.TokWord, "{": api.TokMark, "}": api.TokMark, ";": api.TokMark}
	var all []api.Token
	for _, text := range texts {
		for _, c := range cols {
			for _, first := range []bool{false, true} {
				all = append(all, api.Token{Kind: kinds[text], Text: text, Col: c, First: first})
			}
		}
	}
	return all
}

// everyList calls f with each list of at most n of the tokens, whose places are told one behind the other.
func everyList(all []api.Token, n int, f func(l []api.Token)) {
	var grow func(l []api.Token)
	grow = func(l []api.Token) {
		f(l)
		if len(l) == n {
			return
		}
		for _, x := range all {
			x.At = 10 * (len(l) + 1)
			grow(append(slices.Clip(l), x))
		}
	}
	grow(nil)
}

func TestAsTheReference(t *testing.T) {
	seed := uint(1)
	everyList(everyToken([]string{"a", "of", "{", "}"}, []int{1, 2}), 3, func(l []api.Token) {
		for c := range uint(1 << 4) {
			checkRun(t, l, 99, c)
			seed = seed*1103515245 + 12345
			checkRun(t, l, 99, seed>>16&0xffff)
		}
	})
	everyList(everyToken([]string{"a", "of", "{", "}"}, []int{0, 1, 3}), 3, func(l []api.Token) {
		checkRun(t, l, -9, 0)
	})
	everyList(everyToken([]string{"of", "a"}, []int{1, 2, 3})[3:10], 5, func(l []api.Token) {
		checkRun(t, l, 60, 0)
	})
}

// checkPairs holds braces to be in pairs, implied ones with implied ones.
func checkPairs(t *testing.T, l []api.Lexeme) {
	t.Helper()
	var open []bool
	for _, x := range l {
		switch {
		case x.Token.Kind != api.TokMark:
		case x.Token.Text == "{":
			open = append(open, x.Implied)
		case x.Token.Text == "}":
			if len(open) == 0 || open[len(open)-1] != x.Implied {
				t.Errorf("no pairs: %s", tell(l))
				return
			}
			open = open[:len(open)-1]
		}
	}
	if len(open) > 0 {
		t.Errorf("no pairs: %s", tell(l))
	}
}

// inBraces tells whether each block of a list is in braces.
func inBraces(l []api.Token) bool {
	return !slices.ContainsFunc(pieces(l, 0), func(p piece) bool { return p.kind == 'b' })
}

// What follows (P3.4), and All beside the reference (P3.3).
func TestWhatFollows(t *testing.T) {
	fine, braced := 0, 0
	everyList(everyToken([]string{"a", "of", "{", "}"}, []int{1, 2}), 4, func(l []api.Token) {
		got, f := layout.All(l, 50)
		var want []api.Lexeme
		v := standing{left: pieces(l, 50), end: 50}
		x, e, v := v.next()
		for ; e == api.OK; x, e, v = v.next() {
			want = append(want, x)
		}
		if e == api.ErrLayout {
			if len(got) != 0 || f != (api.Fault{Err: api.ErrLayout, At: wrongAt(v)}) {
				t.Errorf("All(%v) = %s, %v, want ErrLayout at %d", l, tell(got), f, wrongAt(v))
			}
			return
		}
		fine++
		if !slices.Equal(got, want) || f != (api.Fault{}) {
			t.Errorf("All(%v) = %s, %v, want %s", l, tell(got), f, tell(want))
		}
		if !slices.Equal(fromText(got), l) {
			t.Errorf("All(%v) has other tokens: %s", l, tell(got))
		}
		checkPairs(t, got)
		if inBraces(l) {
			braced++
			if len(got) != len(l) {
				t.Errorf("All(%v) implies: %s", l, tell(got))
			}
		}
	})
	if fine < 1000 || braced < 100 {
		t.Errorf("too few: %d, of which %d in braces", fine, braced)
	}
}

// wrongAt is the place of the token at which a reading is wrong, or of the end.
func wrongAt(v standing) int {
	for _, p := range v.left {
		if p.kind == 't' {
			return p.at
		}
	}
	return v.end
}
