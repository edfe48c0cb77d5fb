package occur_test

import (
	"strings"
	"testing"
)

// samples are expressions by the occurrence that x has in them.
func samples() map[string][]string {
	return map[string][]string{
		"dead":   {"1", "'7'", "y", "(Nil)", "(#getc)", "(f y)", "(\\ x -> x)", "(let x = x in x)", "(case z of x -> x)", "xx", "X"},
		"once":   {"x", "(f x)", "(x (\\ x -> (x x)))", "(case z of 1 -> x; _ -> 2)", "(case x of 1 -> 2)", "(let a = x in a)", "(Cons 1 x)", "(#ord x)"},
		"branch": {"(case z of 1 -> x; _ -> x)", "(case z of Nil -> x; Cons a b -> x)", "(case z of 1 -> x; 2 -> 1; _ -> (f x))", "(f (case z of '1' -> x; a -> x))", "(case z of 1 -> x; 2 -> x; _ -> x)"},
		"lam":    {"(\\ y -> x)", "(\\ y z -> x)", "(\\ y -> (f x))", "(\\ y -> (\\ z -> x))", "(f (\\ y -> (x y)))", "(case z of 1 -> (\\ y -> x); _ -> 2)", "(let a = (\\ y -> x) in a)"},
		"many":   {"(x x)", "(\\ y -> (x x))", "(\\ y -> (case z of 1 -> x; _ -> x))", "(case x of 1 -> x)", "(x (\\ y -> x))", "(let a = x in x)", "(case z of 1 -> (x x); _ -> 2)", "(case z of 1 -> x; _ -> (\\ y -> x))"},
	}
}

func put(context string, parts ...string) string {
	for _, part := range parts {
		context = strings.Replace(context, "@", part, 1)
	}
	return context
}

// P16.1: each occurrence, as it stands.
func TestOf(t *testing.T) {
	for want, texts := range samples() {
		for _, text := range texts {
			ofIs(t, read(text), "x", want)
		}
	}
}

// P16.1: each occurrence in each kind of expression: what is within none but lambdas changes it.
func TestOfInEachKind(t *testing.T) {
	for _, context := range []string{
		"(@ 1)", "(f @)", "(f 1 @)", "(f @ 1)", "(Cons @ 1)", "(Cons 1 @)", "(#ord @)", "(#add @ 1)", "(#add 1 @)", "(#seq @ y)", "(#seq y @)", "(#bind @ f)",
		"(let a = @ in 1)", "(let a = @ in a)", "(let a = 1; b = @ in a)", "(let a = @; b = 1 in a)", "(let a = 1 in @)", "(let a = 1; b = a in @)",
		"(case @ of 1 -> 2)", "(case @ of a -> 2)", "(case z of 7 -> @)", "(case z of 7 -> @; 8 -> 1)", "(case z of 7 -> 1; 8 -> @)", "(case z of '7' -> @; _ -> 1)", "(case z of Cons a b -> @; _ -> 1)", "(case z of Nil -> 1; Cons a b -> @)", "(case z of _ -> @)", "(case z of a -> @)", "(case z of 1 -> 2; _ -> @)", "(case z of 1 -> 2; a -> @)",
	} {
		for want, texts := range samples() {
			for _, text := range texts {
				ofIs(t, read(put(context, text)), "x", want)
				ofIs(t, read(put(context, put(context, text))), "x", want)
			}
		}
	}
}

// P16.1: within a lambda one place is lam, several are many.
func TestOfInLambdas(t *testing.T) {
	for _, context := range []string{"(\\ a -> @)", "(\\ a b c -> @)", "(\\ a -> (\\ b -> @))", "(f (\\ a -> @))", "(let a = (\\ b -> @) in a)", "(case (\\ a -> @) of 1 -> 2)", "(case z of 1 -> (\\ a -> @); _ -> 2)", "(\\ a -> (case a of 1 -> @; _ -> 2))", "(\\ a -> (let b = @ in b))"} {
		for occ, texts := range samples() {
			want := map[string]string{"dead": "dead", "once": "lam", "branch": "many", "lam": "lam", "many": "many"}[occ]
			for _, text := range texts {
				ofIs(t, read(put(context, text)), "x", want)
			}
		}
	}
}

// pairs tells of two parts, by the occurrence in each, what the occurrence in both is.
func pairs(t *testing.T, context, table string) {
	t.Helper()
	lines := strings.Split(strings.TrimSpace(table), "\n")
	heads := strings.Fields(lines[0])
	for _, line := range lines[1:] {
		wants := strings.Fields(line)
		for i, head := range heads {
			for _, one := range samples()[wants[0]] {
				for _, other := range samples()[head] {
					ofIs(t, read(put(context, one, other)), "x", wants[i+1])
				}
			}
		}
	}
}

// P16.1: parts of which the one may be evaluated, and the other too.
func TestOfPartsTogether(t *testing.T) {
	for _, context := range []string{
		"(@ @)", "(f @ @)", "(f @ 1 @)", "(Cons @ @)", "(Triple @ y @)", "(#add @ @)", "(#seq @ @)", "(let a = @ in @)", "(let a = @; b = @ in a)", "(let a = @; b = 1; c = @ in a)",
		"(case @ of 1 -> @; _ -> 2)", "(case @ of 1 -> 2; _ -> @)", "(case @ of Cons a b -> @)", "(case (f @) of a -> (f @))", "(case z of 1 -> (@ @); _ -> 2)", "(case z of 1 -> 2; a -> (let b = @ in @))", "((case z of 1 -> @; _ -> 2) (case z of 1 -> 3; _ -> @))", "(let a = (case z of 1 -> @; _ -> 2) in (case z of 1 -> 3; _ -> @))",
	} {
		pairs(t, context, `
			dead once branch lam many
		dead   dead   once branch lam  many
		once   once   many many   many many
		branch branch many many   many many
		lam    lam    many many   many many
		many   many   many many   many many`)
	}
}

// P16.1: parts of which one at most is evaluated.
func TestOfPartsApart(t *testing.T) {
	for _, context := range []string{
		"(case z of 1 -> @; _ -> @)", "(case z of 1 -> @; 2 -> @)", "(case z of 1 -> @; 2 -> 3; _ -> @)", "(case z of Nil -> @; Cons a b -> @)", "(case z of '1' -> @; a -> @)", "(case z of 1 -> (f @); _ -> (Cons 1 @))", "(case z of 1 -> (let a = @ in a); _ -> (let b = 1 in @))", "(case z of 1 -> (case @ of 1 -> 2); _ -> (#ord @))",
		"(case z of 1 -> (case z of 1 -> @; _ -> 2); _ -> (case z of 1 -> 3; _ -> @))", "(case z of 1 -> 2; _ -> (case z of 1 -> @; _ -> @))", "(f (case z of 1 -> @; _ -> @))", "(let a = (case z of 1 -> @; _ -> @) in a)", "(case (case z of 1 -> @; _ -> @) of 1 -> 2; _ -> 3)",
	} {
		pairs(t, context, `
			dead once branch lam many
		dead   dead   once   branch lam  many
		once   once   branch branch many many
		branch branch branch branch many many
		lam    lam    many   many   many many
		many   many   many   many   many many`)
	}
}

// P16.1: at how many places a name stands.
func TestCount(t *testing.T) {
	for text, want := range map[string]int{
		"1": 0, "y": 0, "x": 1, "(x x)": 2, "(x x x x)": 4, "(\\ y -> (x y x))": 2, "(\\ x -> (x x))": 0, "(x (\\ x -> x) x)": 2, "(Cons x (Cons x (Nil)))": 2, "(#add x (#add x x))": 3, "(let a = x; b = (f x) in (x a b))": 3, "(let a = x; x = (f x) in (x a b))": 0,
		"(case x of 1 -> x; 2 -> (x x); x -> (x x x))": 4, "(case x of Cons x y -> x; Nil -> x)": 2, "(case (\\ x -> x) of _ -> x)": 1, "(X x)": 1, "(#x)": 0, "(f (\\ y -> (\\ z -> (y x z))))": 1,
	} {
		countIs(t, read(text), "x", want)
	}
	e := read("(f x (\\ x -> (x y)) y)")
	for name, want := range map[string]int{"f": 1, "x": 1, "y": 2, "z": 0, "": 0, "f ": 0} {
		countIs(t, e, name, want)
	}
}

// What is no variable is none, whatever its name: constructors, primitives, alternatives.
func TestOtherNamesAreNone(t *testing.T) {
	for _, text := range []string{"(X)", "(X 1 2)", "(#X)", "(#X 1)", "(case 1 of X -> 2; X a b -> 3)", "(let X = 1 in 2)", "(\\ X -> 1)", "(case 1 of a -> a)"} {
		ofIs(t, read(text), "X", "dead")
		countIs(t, read(text), "X", 0)
	}
}
