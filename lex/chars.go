package lex

import (
	"strconv"
	"strings"

	"thunkmill/api"
)

// Text tells a lexeme of a token.
func Text(t api.Token) string {
	switch t.Kind {
	case api.TokInt:
		return strconv.FormatInt(max(t.Num, 0), 10)
	case api.TokChar:
		c := byte(min(max(t.Num, 0), 255))
		return quoted(string([]byte{c}), '\'', "")
	case api.TokString:
		// A digit that comes next would else belong to the code.
		return quoted(t.Text, '"', `\&`)
	case api.TokName, api.TokCon, api.TokOp, api.TokConOp, api.TokMark, api.TokWord, api.TokSign:
		return t.Text
	}
	return ""
}

// Join tells a text of which the lexemes are those of the tokens.
func Join(l []api.Token) string {
	texts := make([]string, len(l))
	for i, t := range l {
		texts[i] = Text(t)
	}
	return strings.Join(texts, " ")
}

// quoted tells characters in quotes, with what is to stand behind each code.
func quoted(text string, quote byte, behind string) string {
	var b strings.Builder
	b.WriteByte(quote)
	for i := range len(text) {
		c := text[i]
		switch {
		case c == quote || c == '\\':
			b.WriteByte('\\')
			b.WriteByte(c)
		case isPlain(c):
			b.WriteByte(c)
		default:
			b.WriteByte('\\')
			b.WriteString(strconv.Itoa(int(c)))
			b.WriteString(behind)
		}
	}
	b.WriteByte(quote)
	return b.String()
}

// characters reads the string that a rest begins with: how many bytes it takes, quotes and all, and its characters; 0 bytes if there is none.
func characters(rest string) (n int, text []byte) {
	if !strings.HasPrefix(rest, `"`) {
		return 0, nil
	}
	at := 1
	for !strings.HasPrefix(rest[at:], `"`) {
		if n := noCharacter(rest[at:]); n > 0 {
			at += n
			continue
		}
		n, c := character(rest[at:], '"')
		if n == 0 {
			return 0, nil
		}
		text = append(text, c)
		at += n
	}
	return at + 1, text
}

// noCharacter tells how many bytes an empty escape or a gap takes.
func noCharacter(rest string) int {
	behind, ok := strings.CutPrefix(rest, `\`)
	if !ok {
		return 0
	}
	if strings.HasPrefix(behind, "&") {
		return len(`\&`)
	}
	n := count(behind, isBlank)
	if n == 0 || !strings.HasPrefix(behind[n:], `\`) {
		return 0
	}
	return n + 2
}

// character reads the character that a rest begins with: how many bytes it takes, and its code; 0 bytes if there is none.
func character(rest string, quote byte) (n int, c byte) {
	if rest == "" || rest[0] == quote || !isPlain(rest[0]) {
		return 0, 0
	}
	if rest[0] != '\\' {
		return 1, rest[0]
	}
	n, c = escape(rest[1:])
	if n == 0 {
		return 0, 0
	}
	return n + 1, c
}

// escape reads likewise what stands behind the \ of a character.
func escape(rest string) (n int, c byte) {
	if rest == "" {
		return 0, 0
	}
	switch rest[0] {
	case 'n':
		return 1, lineEnd
	case 't':
		return 1, tab
	case '\\', '\'', '"':
		return 1, rest[0]
	case 'x':
		n, v := digits(rest[1:], 16, 8)
		if n == 0 {
			return 0, 0
		}
		return n + 1, byte(v)
	}
	n, v := digits(rest, 10, 8)
	return n, byte(v)
}

func isPlain(c byte) bool { return lowest <= c && c <= highest }
