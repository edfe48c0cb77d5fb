package layout

import "thunkmill/api"

// state is how a stream stands: which mark is ahead of the token that is next in the text.
type state interface {
	// next tells what comes next in this state, and the state behind it.
	next(s *Stream) turn
}

// turn is what comes next, or why nothing does, and what becomes of a stream with it.
type turn struct {
	lexeme api.Lexeme
	err    api.Errno
	state  state
	begins bool // a block, at the column
	column int
	ends   bool // the innermost block
	owed   int  // by how many more implied } come ahead of all else
}

// opening is the mark {n}.
type opening int

// lining is the mark <n>.
type lining int

// plain is no mark.
type plain struct{}

// ahead tells the state ahead of tokens; begins tells whether a block is to begin there.
func ahead(l []api.Token, begins bool) state {
	switch {
	case begins && len(l) == 0:
		return opening(0)
	case begins && !isMark(l[0], "{"):
		return opening(l[0].Col)
	case len(l) > 0 && l[0].First:
		return lining(l[0].Col)
	}
	return plain{}
}

func (n opening) next(s *Stream) turn {
	if int(n) > s.column() {
		return turn{lexeme: s.implied("{"), state: plain{}, begins: true, column: int(n)}
	}
	// The token is none of the new block's: that one is empty, and no block of the stack.
	return turn{lexeme: s.implied("{"), state: lining(n), owed: 1}
}

func (n lining) next(s *Stream) turn {
	m := s.column()
	switch {
	case m > 0 && m == int(n):
		return turn{lexeme: s.implied(";"), state: plain{}}
	case m > 0 && m > int(n):
		return turn{lexeme: s.implied("}"), state: n, ends: true}
	}
	return plain{}.next(s)
}

func (p plain) next(s *Stream) turn {
	if len(s.tokens) == 0 {
		return p.last(s)
	}
	t := s.tokens[0]
	it := turn{lexeme: api.Lexeme{Token: t}, state: ahead(s.tokens[1:], opens(t))}
	switch {
	case isMark(t, "{"):
		it.begins = true
	case isMark(t, "}") && (len(s.blocks) == 0 || s.column() > 0):
		return turn{err: api.ErrLayout}
	case isMark(t, "}"):
		it.ends = true
	}
	return it
}

// last tells what comes once no token is left.
func (p plain) last(s *Stream) turn {
	switch {
	case len(s.blocks) == 0:
		return turn{err: api.ErrOver}
	case s.column() == 0:
		return turn{err: api.ErrLayout}
	}
	return turn{lexeme: s.implied("}"), state: p, ends: true}
}

func isMark(t api.Token, text string) bool {
	return t.Kind == api.TokMark && t.Text == text
}

// opens tells whether a block is to begin behind a token.
func opens(t api.Token) bool {
	if t.Kind != api.TokWord {
		return false
	}
	switch t.Text {
	case "let", "where", "do", "of":
		return true
	}
	return false
}
