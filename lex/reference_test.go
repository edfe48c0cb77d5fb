package lex_test

import (
	"regexp"
	"slices"
	"strconv"
	"strings"
	"testing"

	"thunkmill/api"
	"thunkmill/lex"
	"thunkmill/source"
	"thunkmill/testkit"
)

// shape is what lexemes of a kind look like.
type shape struct {
	kind int
	re   *regexp.Regexp
}

const escapes = `\\(?:[nt\\'"]|[0-9]+|x[0-9a-fA-F]+)`
const symbolClass = `[!#$%&*+./<=>?@\\^|\-~:]`

func longestOf(re string) *regexp.Regexp {
	r := regexp.MustCompile(re)
	r.Longest()
	return r
}

func shapes() []shape {
	return []shape{
		{api.TokName, longestOf(`^[a-z_][a-zA-Z0-9_']*`)},
		{api.TokCon, longestOf(`^[A-Z][a-zA-Z0-9_']*`)},
		{api.TokOp, longestOf(`^[!#$%&*+./<=>?@\\^|\-~]` + symbolClass + `*`)},
		{api.TokConOp, longestOf(`^:` + symbolClass + `*`)},
		{api.TokInt, longestOf(`^(?:[0-9]+|0x[0-9a-fA-F]+)`)},
		{api.TokChar, longestOf(`^'(?:[ -&(-\[\]-~]|` + escapes + `)'`)},
		{api.TokString, longestOf(`^"(?:[ !#-\[\]-~]|` + escapes + `|\\&|\\[ \t\n]+\\)*"`)},
		{api.TokMark, longestOf("^[()\\[\\],;`{}]")},
	}
}

// reference finds tokens by regular expressions, by another road than the program.
type reference struct {
	shapes  []shape
	dashes  *regexp.Regexp
	braces  *regexp.Regexp
	pieces  *regexp.Regexp
	symbols *regexp.Regexp
}

func newReference() reference {
	return reference{
		shapes:  shapes(),
		dashes:  regexp.MustCompile(`^--+$`),
		braces:  regexp.MustCompile(`\{-|-\}`),
		pieces:  longestOf(escapes + `|\\&|\\[ \t\n]+\\|[ -~]`),
		symbols: regexp.MustCompile(`^` + symbolClass + `+`),
	}
}

// between tells how many bytes of blanks and remarks come first, and whether what comes then is a remark that is not closed.
func (r reference) between(s string) (int, bool) {
	at := 0
	for at < len(s) {
		rest := s[at:]
		switch {
		case strings.ContainsAny(rest[:1], " \t\n"):
			at++
		case r.dashes.MatchString(r.symbols.FindString(rest)):
			at += len(strings.SplitN(rest, "\n", 2)[0])
		case strings.HasPrefix(rest, "{-"):
			open, end := 0, -1
			for _, at := range r.braces.FindAllStringIndex(rest, -1) {
				if rest[at[0]] == '{' {
					open++
				} else {
					open--
				}
				if open == 0 {
					end = at[1]
					break
				}
			}
			if end < 0 {
				return at, true
			}
			at += end
		default:
			return at, false
		}
	}
	return at, false
}

// lexeme tells the longest lexeme ahead, as a token without places; 0 bytes if there is none.
func (r reference) lexeme(s string) (int, api.Token) {
	n, t := 0, api.Token{}
	for _, sh := range r.shapes {
		if m := sh.re.FindString(s); len(m) > n {
			n, t = len(m), api.Token{Kind: sh.kind, Text: m}
		}
	}
	ok := true
	switch t.Kind {
	case api.TokName:
		if slices.Contains(rowNine(), t.Text) {
			t.Kind = api.TokWord
		}
	case api.TokOp:
		if slices.Contains(rowTen(), t.Text) {
			t.Kind = api.TokSign
		}
	case api.TokInt:
		base := 10
		if strings.Contains(t.Text, "x") {
			base = 16
		}
		var err error
		t.Num, err = strconv.ParseInt(strings.TrimPrefix(t.Text, "0x"), base, 64)
		ok = err == nil
		t.Text = ""
	case api.TokChar:
		var b []byte
		b, ok = r.decoded(t.Text)
		if ok {
			t.Num = int64(b[0])
		}
		t.Text = ""
	case api.TokString:
		var b []byte
		b, ok = r.decoded(t.Text)
		t.Text = string(b)
	}
	if !ok {
		return 0, api.Token{}
	}
	return n, t
}

// decoded tells the characters of a lexeme in quotes.
func (r reference) decoded(lexeme string) ([]byte, bool) {
	var out []byte
	for _, p := range r.pieces.FindAllString(lexeme[1:len(lexeme)-1], -1) {
		if len(p) == 1 {
			out = append(out, p[0])
			continue
		}
		switch c := p[1]; {
		case c == '&' || c == ' ' || c == '\t' || c == '\n':
		case c == 'n':
			out = append(out, '\n')
		case c == 't':
			out = append(out, '\t')
		case c == 'x' || '0' <= c && c <= '9':
			digits, base := p[1:], 10
			if c == 'x' {
				digits, base = p[2:], 16
			}
			v, err := strconv.ParseUint(digits, base, 64)
			if err != nil || v > 255 {
				return nil, false
			}
			out = append(out, byte(v))
		default:
			out = append(out, c)
		}
	}
	return out, true
}

// all tells what All must answer, and how long each lexeme is.
func (r reference) all(s string) ([]api.Token, []int, api.Fault) {
	if f := source.Check(s); f.Err != api.OK {
		return nil, nil, f
	}
	var tokens []api.Token
	var lengths []int
	at, line := 0, 0
	for {
		n, open := r.between(s[at:])
		at += n
		if open {
			return nil, nil, api.Fault{Err: api.ErrLex, At: at}
		}
		if at == len(s) {
			return tokens, lengths, api.Fault{}
		}
		n, t := r.lexeme(s[at:])
		if n == 0 {
			return nil, nil, api.Fault{Err: api.ErrLex, At: at}
		}
		t.At = at
		t.Line, t.Col, _ = source.Where(s, at)
		t.First = t.Line != line
		line = t.Line
		tokens = append(tokens, t)
		lengths = append(lengths, n)
		at += n
	}
}

const ordinary = `data Tree a = Leaf | Node (Tree a) a (Tree a) -- a tree
infixr 5 +++
{- joins {- two -} lists -}
xs +++ ys = case xs of { [] -> ys ; z : zs -> z : (zs +++ ys) }
f x@(a, ~b) _ | x <= 0x1F = \ y -> y ` + "`f`" + ` 'c'
	| True = "a\tb\ \c\200\&0\
   \d" where c' = '\''
main = do s <- getLine ; let { n = [1 .. 9] } ; putStr (s ++ "\n")`

// samples are the texts that the promises about any text are held against.
func samples() []string {
	all := []string{ordinary, "a\n--", "a\t\tb\t 1\n\t 'c'", "9223372036854775807 9223372036854775808", `'\255' '\256'`, `"\x0ff" "\x100"`, "a \x80 b", "a \xff"}
	for n := range len(ordinary) {
		all = append(all, ordinary[:n], ordinary[n:])
	}
	for _, alphabet := range []string{"-{}| \n", "-{}|", "\"\\&n1 ", "\"\\x1f\n", "'\\n\"a1", "'\\x1F&", "0x1Fg.", "a_A'1 ", ":-.=|\\", "<->@~ a", "\t\na;\"\\", "of_l1'"} {
		all = append(all, testkit.Words(alphabet, 5)...)
	}
	return all
}

// P2.1, against another way to find the same.
func TestAsTheReference(t *testing.T) {
	r := newReference()
	for _, s := range samples() {
		got, f := lex.All(s)
		want, _, wantF := r.all(s)
		if f != wantF || !slices.Equal(got, want) {
			t.Fatalf("All(%q) = %v, %v, want %v, %v", s, got, f, want, wantF)
		}
	}
}

// P2.3: the tokens of Join are the same but for places.
func TestJoinGivesBack(t *testing.T) {
	all := samples()
	for c := range 256 {
		all = append(all, `'\`+strconv.Itoa(c)+`' "\`+strconv.Itoa(c)+`\&`+strconv.Itoa(c)+`"`)
	}
	for _, s := range all {
		l, _ := lex.All(s)
		back, f := lex.All(lex.Join(l))
		if f != (api.Fault{}) || !slices.Equal(told(back), told(l)) {
			t.Fatalf("%q: the tokens of %q are %v, %v, not %v", s, lex.Join(l), back, f, l)
		}
	}
}

// P2.3: between tokens there are blanks and remarks alone, and none could be longer.
func TestNothingIsLeftOut(t *testing.T) {
	r := newReference()
	whole := func(s string) bool {
		n, _ := r.lexeme(s)
		return n == len(s)
	}
	for _, s := range samples() {
		l, _ := lex.All(s)
		_, lengths, _ := r.all(s)
		at := 0
		for i, tk := range l {
			if n, open := r.between(s[at:tk.At]); n != tk.At-at || open {
				t.Fatalf("%q: between the tokens stands %q", s, s[at:tk.At])
			}
			at = tk.At + lengths[i]
			for end := at + 1; end <= min(len(s), at+40); end++ {
				if whole(s[tk.At:end]) {
					t.Fatalf("%q: %q is a lexeme that is longer than %v", s, s[tk.At:end], tk)
				}
			}
		}
	}
}
