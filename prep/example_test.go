package prep_test

import "testing"

// P18.1: the chapter's examples.
func TestExamples(t *testing.T) {
	for _, x := range [][2]string{
		{"(f (g x) 1)", "(let a = (g x) in (f a 1))"},
		{"(Cons 1 (Cons y (Nil)))", "(let a = (let b = (Nil) in (Cons y b)) in (Cons 1 a))"},
		{"(#add (f x) (g (h x)))", "(#add (f x) (let a = (h x) in (g a)))"},
		{"(#bind (#getc) (\\ c -> (#putc c)))", "(let a = (#getc); b = (\\ c -> (#putc c)) in (#bind a b))"},
		{"((\\ x -> x) (\\ x -> x))", "(let a = (\\ x -> x) in ((\\ y -> y) a))"},
	} {
		becomes(t, x[0], x[1])
	}
}
