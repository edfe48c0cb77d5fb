// Package source is layer 1: a program's text, its bytes, lines and columns. See shared/doc/01-source.md.
package source

import (
	"iter"
	"strings"

	"thunkmill/api"
)

// The bytes that the chapter names. From lowest to highest all may be.
const (
	tab     = 9
	lineEnd = 10
	blank   = 32
	lowest  = 32
	highest = 126
)

// tabStop is how far apart the columns are that a tab leads to.
const tabStop = 8

// Check tells whether a text may be: ErrLong at -1, ErrLex at the first byte that may not be.
func Check(s string) api.Fault {
	if len(s) > api.MaxSource {
		return api.Fault{Err: api.ErrLong, At: -1}
	}
	for at := range len(s) {
		if !mayBe(s[at]) {
			return api.Fault{Err: api.ErrLex, At: at}
		}
	}
	return api.Fault{}
}

// Lines tells a text's lines, without the bytes that part them.
func Lines(s string) []string {
	var all []string
	for _, text := range lines(s) {
		all = append(all, text)
	}
	return all
}

// Where tells the line and the column of a place.
func Where(s string, at int) (line, col int, e api.Errno) {
	if at < 0 || at > len(s) {
		return 0, 0, api.ErrArg
	}
	// The last line of what is ahead of the place is the part of the place's own line that moves its column.
	ahead := ""
	for _, text := range lines(s[:at]) {
		line++
		ahead = text
	}
	for _, c := range columns(ahead) {
		col = c
	}
	return line, col, api.OK
}

// At tells the place that has a line and a column.
func At(s string, line, col int) (at int, e api.Errno) {
	start, text, ok := lineOf(s, line)
	if !ok {
		return 0, api.ErrArg
	}
	for i, c := range columns(text) {
		if c == col {
			return start + i, api.OK
		}
	}
	return 0, api.ErrArg
}

// Indent tells the column of a line's first byte that is neither blank nor tab, 0 if there is none.
func Indent(s string, line int) (col int, e api.Errno) {
	_, text, ok := lineOf(s, line)
	if !ok {
		return 0, api.ErrArg
	}
	for i, c := range columns(text) {
		if i < len(text) && text[i] != blank && text[i] != tab {
			return c, api.OK
		}
	}
	return 0, api.OK
}

func mayBe(c byte) bool {
	return lowest <= c && c <= highest || c == tab || c == lineEnd
}

// lines goes over a text's lines: the place where each begins, and the line. There is always one.
func lines(s string) iter.Seq2[int, string] {
	return func(yield func(int, string) bool) {
		start := 0
		for {
			n := strings.IndexByte(s[start:], lineEnd)
			if n < 0 {
				yield(start, s[start:])
				return
			}
			if !yield(start, s[start:start+n]) {
				return
			}
			start += n + 1
		}
	}
}

// columns goes over the places of a line, the one behind its last byte too: how many of its bytes are ahead, and the column.
func columns(text string) iter.Seq2[int, int] {
	return func(yield func(int, int) bool) {
		col := 1
		for i := range len(text) {
			if !yield(i, col) {
				return
			}
			col = behind(text[i], col)
		}
		yield(len(text), col)
	}
}

// behind tells the column behind a byte that has the column col.
func behind(c byte, col int) int {
	if c == tab {
		return col + tabStop - (col-1)%tabStop
	}
	return col + 1
}

// lineOf tells where a line begins, and the line; false if it is not there.
func lineOf(s string, line int) (start int, text string, ok bool) {
	n := 0
	for at, found := range lines(s) {
		n++
		if n == line {
			return at, found, true
		}
	}
	return 0, "", false
}
