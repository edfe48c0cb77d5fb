package prim_test

import (
	"math"
	"slices"
	"testing"

	"thunkmill/api"
)

// P8.1: the examples of the chapter that are wrong.
func TestWrongExamples(t *testing.T) {
	isWrong(t, "one too few", "add", []api.Prim{number(1)})
	isWrong(t, "a character", "add", []api.Prim{number(1), character('a')})
	isWrong(t, "none of the table", "seq", []api.Prim{number(1), number(2)})
}

// P8.1: names of none, with any number of arguments.
func TestWrongNames(t *testing.T) {
	for _, name := range noNames() {
		for n := range 4 {
			isWrong(t, "no name", name, slices.Repeat([]api.Prim{number(1)}, n))
			isWrong(t, "no name", name, slices.Repeat([]api.Prim{character(1)}, n))
		}
	}
}

// P8.1: the others, with as many arguments as they have, and with less and more.
func TestOthersAreNotApplied(t *testing.T) {
	for _, p := range others() {
		isWrong(t, "one of the others", p.name, good(p))
		for n := range 4 {
			for _, a := range []api.Prim{number(1), character(1), truth(true), failure("no"), {}} {
				isWrong(t, "one of the others", p.name, slices.Repeat([]api.Prim{a}, n))
			}
		}
	}
}

// P8.1: one argument too few, one too many, none, and far too many. Spare room is no argument.
func TestWrongCounts(t *testing.T) {
	for _, p := range simple() {
		args := good(p)
		more := append(slices.Clone(args), args[0])
		isWrong(t, "one too few", p.name, more[:p.arity-1])
		isWrong(t, "one too many", p.name, more)
		isWrong(t, "none", p.name, nil)
		isWrong(t, "none", p.name, []api.Prim{})
		isWrong(t, "none, with room", p.name, more[:0])
		isWrong(t, "far too many", p.name, slices.Repeat(args, 1000))
	}
}

// unfit are values that a primitive doesn't take.
func unfit(takes int) map[string]api.Prim {
	l := map[string]api.Prim{
		"a truth": truth(true), "an error": failure("divide by zero"), "an error without text": failure(""), "a truth that is false": truth(false),
		"the Kind 0": {Num: 65}, "the zero value": {}, "the Kind 5": {Kind: 5, Num: 65}, "the Kind -1": {Kind: -1, Num: 65}, "a great Kind": {Kind: math.MaxInt, Num: 65}, "the least Kind": {Kind: math.MinInt, Num: 65},
		"a number with a text": {Kind: api.PrimInt, Num: 65, Text: "a"}, "a character with a text": {Kind: api.PrimChar, Num: 65, Text: "a"}, "0 with a text": {Kind: api.PrimInt, Text: "\x00"}, "a character 0 with a text": {Kind: api.PrimChar, Text: "\x00"},
		"a character of -1": character(-1), "a character of 256": character(256), "a character of the least number": character(math.MinInt64), "a character of the greatest one": character(math.MaxInt64), "a character of 2^32": character(1 << 32),
	}
	if takes == api.PrimInt {
		l["a character"], l["a character 0"] = character(65), character(0)
	} else {
		l["a number"], l["0"] = number(65), number(0)
	}
	return l
}

// P8.1: what is not taken, at each place, beside good ones and in all places.
func TestWrongArguments(t *testing.T) {
	for _, p := range simple() {
		for what, a := range unfit(p.takes) {
			for i := range p.arity {
				args := good(p)
				args[i] = a
				isWrong(t, what, p.name, args)
			}
			isWrong(t, what, p.name, slices.Repeat([]api.Prim{a}, p.arity))
		}
	}
}

// P8.1: a divisor 0 and a code out of range are told only if nothing is wrong with the arguments.
func TestWrongAheadOfFailures(t *testing.T) {
	for _, name := range []string{"quot", "rem"} {
		isWrong(t, "a character by 0", name, []api.Prim{character(1), number(0)})
		isWrong(t, "by a character 0", name, []api.Prim{number(1), character(0)})
		isWrong(t, "by 0 and one more", name, []api.Prim{number(1), number(0), number(0)})
		isWrong(t, "0 alone", name, []api.Prim{number(0)})
	}
	isWrong(t, "two codes", "chr", []api.Prim{number(256), number(256)})
	isWrong(t, "a code with a text", "chr", []api.Prim{{Kind: api.PrimInt, Num: 256, Text: "a"}})
}
