package lex

import (
	"strconv"
	"strings"
)

// What encloses a remark that may have others within.
const (
	opening = "{-"
	closing = "-}"
)

// takers are the functions that find lexemes: each tells how many bytes the lexeme of its kind takes that a rest of the text begins with, 0 if it begins with none. The first one is of the kind 1, and so on.
func takers() []func(rest string) int {
	return []func(string) int{takeName, takeCon, takeOp, takeConOp, takeInt, takeChar, takeString, takeMark}
}

// passers tell likewise what stands between lexemes.
func passers() []func(rest string) int {
	return []func(string) int{passBlanks, passDashes, passNested}
}

// longest tells which function takes the most bytes, and how many; 0 bytes if none takes any.
func longest(of []func(rest string) int, rest string) (which, most int) {
	for i, take := range of {
		if n := take(rest); n > most {
			which, most = i, n
		}
	}
	return which, most
}

// idle tells how many bytes are ahead of the next lexeme.
func idle(between []func(rest string) int, rest string) int {
	at := 0
	for {
		_, n := longest(between, rest[at:])
		if n == 0 {
			return at
		}
		at += n
	}
}

func takeName(rest string) int { return headed(rest, beginsName, withinName) }

func takeCon(rest string) int { return headed(rest, isCapital, withinName) }

func takeOp(rest string) int { return headed(rest, beginsOp, Symbol) }

func takeConOp(rest string) int { return headed(rest, isColon, Symbol) }

func takeInt(rest string) int {
	n, _ := number(rest)
	return n
}

func takeChar(rest string) int {
	if !strings.HasPrefix(rest, "'") {
		return 0
	}
	n, _ := character(rest[1:], '\'')
	if n == 0 || !strings.HasPrefix(rest[1+n:], "'") {
		return 0
	}
	return n + 2
}

func takeString(rest string) int {
	n, _ := characters(rest)
	return n
}

func takeMark(rest string) int {
	// A remark that is not closed is a fault: its brace is no mark.
	if rest == "" || strings.HasPrefix(rest, opening) || strings.IndexByte("()[],;`{}", rest[0]) < 0 {
		return 0
	}
	return 1
}

func passBlanks(rest string) int { return count(rest, isBlank) }

// passDashes takes a remark of dashes, up to its line's end.
func passDashes(rest string) int {
	n := count(rest, Symbol)
	if n < 2 || strings.Trim(rest[:n], "-") != "" {
		return 0
	}
	if end := strings.IndexByte(rest, lineEnd); end >= 0 {
		return end
	}
	return len(rest)
}

// passNested takes a remark in braces, with those within it; nothing, if it is not closed.
func passNested(rest string) int {
	if !strings.HasPrefix(rest, opening) {
		return 0
	}
	open := 0
	for at := 0; at < len(rest); {
		switch {
		case strings.HasPrefix(rest[at:], opening):
			open++
			at += len(opening)
		case strings.HasPrefix(rest[at:], closing):
			open--
			at += len(closing)
			if open == 0 {
				return at
			}
		default:
			at++
		}
	}
	return 0
}

// headed tells how many bytes one that may begin, and those that may stand behind it, take.
func headed(rest string, begins, within func(byte) bool) int {
	if rest == "" || !begins(rest[0]) {
		return 0
	}
	return 1 + count(rest[1:], within)
}

// count tells how many bytes of one sort a rest begins with.
func count(rest string, one func(byte) bool) int {
	n := 0
	for n < len(rest) && one(rest[n]) {
		n++
	}
	return n
}

// number reads the number that a rest begins with: how many bytes it takes, and what it is. One too great is none.
func number(rest string) (n int, value int64) {
	behind, hex := strings.CutPrefix(rest, "0x")
	if !hex || count(behind, isHex) == 0 {
		n, v := digits(rest, 10, 63)
		return n, int64(v)
	}
	n, v := digits(behind, 16, 63)
	if n == 0 {
		return 0, 0
	}
	return n + len("0x"), int64(v)
}

// digits reads all the digits that a rest begins with, as a number of so many bits at most; 0 bytes if there are none, or it has more bits.
func digits(rest string, base, bits int) (n int, value uint64) {
	one := isDigit
	if base == 16 {
		one = isHex
	}
	n = count(rest, one)
	value, err := strconv.ParseUint(rest[:n], base, bits)
	if err != nil {
		return 0, 0
	}
	return n, value
}

func isBlank(c byte) bool { return c == blank || c == tab || c == lineEnd }

func isSmall(c byte) bool { return 'a' <= c && c <= 'z' }

func isCapital(c byte) bool { return 'A' <= c && c <= 'Z' }

func isDigit(c byte) bool { return '0' <= c && c <= '9' }

func isHex(c byte) bool {
	return isDigit(c) || 'a' <= c && c <= 'f' || 'A' <= c && c <= 'F'
}

func isColon(c byte) bool { return c == ':' }

func beginsName(c byte) bool { return isSmall(c) || c == '_' }

func withinName(c byte) bool {
	return beginsName(c) || isCapital(c) || isDigit(c) || c == '\''
}

func beginsOp(c byte) bool { return Symbol(c) && !isColon(c) }
