package simpl_test

import (
	"testing"

	"thunkmill/api"
	"thunkmill/core"
)

// P17.1: each primitive of chapter 8's table that it takes, whose value is no error.
func TestFold(t *testing.T) {
	allBecome(t, api.RuleFold, []told{
		{0, "(#add 1 2)", "3"},
		{0, "(#add 9223372036854775807 1)", "-9223372036854775808"},
		{0, "(#sub 1 2)", "-1"},
		{0, "(#sub -9223372036854775808 1)", "9223372036854775807"},
		{0, "(#mul -3 2)", "-6"},
		{0, "(#mul 9223372036854775807 2)", "-2"},
		{0, "(#quot -7 2)", "-3"},
		{0, "(#quot -9223372036854775808 -1)", "-9223372036854775808"},
		{0, "(#quot 0 5)", "0"},
		{0, "(#rem -7 2)", "-1"},
		{0, "(#rem -9223372036854775808 -1)", "0"},
		{0, "(#eq 1 1)", "(True)"}, {0, "(#eq 1 2)", "(False)"},
		{0, "(#ne 1 2)", "(True)"}, {0, "(#ne 1 1)", "(False)"},
		{0, "(#lt 1 2)", "(True)"}, {0, "(#lt 1 1)", "(False)"}, {0, "(#lt 2 1)", "(False)"},
		{0, "(#le 1 2)", "(True)"}, {0, "(#le 1 1)", "(True)"}, {0, "(#le 2 1)", "(False)"},
		{0, "(#gt 2 1)", "(True)"}, {0, "(#gt 1 1)", "(False)"}, {0, "(#gt 1 2)", "(False)"},
		{0, "(#ge 2 1)", "(True)"}, {0, "(#ge 1 1)", "(True)"}, {0, "(#ge 1 2)", "(False)"},
		{0, "(#ceq '97' '97')", "(True)"}, {0, "(#ceq '97' '98')", "(False)"},
		{0, "(#clt '97' '98')", "(True)"}, {0, "(#clt '97' '97')", "(False)"}, {0, "(#clt '98' '97')", "(False)"},
		{0, "(#ord '0')", "0"}, {0, "(#ord '97')", "97"}, {0, "(#ord '255')", "255"},
		{0, "(#chr 0)", "'0'"}, {0, "(#chr 97)", "'97'"}, {0, "(#chr 255)", "'255'"},
		// Errors.
		{0, "(#quot 1 0)", ""}, {0, "(#rem 1 0)", ""}, {0, "(#quot 0 0)", ""}, {0, "(#rem 0 0)", ""},
		{0, "(#chr -1)", ""}, {0, "(#chr 256)", ""}, {0, "(#chr 353)", ""}, {0, "(#chr -9223372036854775808)", ""},
		// What it does not take.
		{0, "(#add 1 '2')", ""}, {0, "(#add '1' 2)", ""}, {0, "(#eq '1' '1')", ""}, {0, "(#ceq 1 1)", ""}, {0, "(#ceq '1' 1)", ""}, {0, "(#clt 1 2)", ""},
		{0, "(#ord 97)", ""}, {0, "(#chr '97')", ""}, {0, "(#lt 1 '2')", ""}, {0, "(#quot '1' '0')", ""},
		// What is not yet a number, or is another value.
		{0, "(#add 1 x)", ""}, {0, "(#add x 1)", ""}, {0, "(#add 1 (#add 1 2))", ""}, {0, "(#mul 0 (f 1))", ""}, {0, "(#eq (True) (True))", ""}, {0, "(#ord (Nil))", ""}, {0, "(#ord (\\ x -> x))", ""},
		{0, "(#add (let x = 1 in x) 2)", ""}, {0, "(#eq x x)", ""},
		{2, "(#add 1 (#add 1 2))", "(#add 1 3)"},
		// The other primitives.
		{0, "(#seq 1 2)", ""}, {0, "(#seq '1' '2')", ""}, {0, "(#show 1)", ""}, {0, "(#error 1)", ""}, {0, "(#ret 1)", ""}, {0, "(#bind 1 2)", ""}, {0, "(#getc)", ""}, {0, "(#eof)", ""}, {0, "(#putc '97')", ""}, {0, "(#exit 1)", ""},
		// What is no primitive.
		{0, "(add 1 2)", ""}, {0, "(Cons 1 2)", ""}, {0, "1", ""}, {0, "(Nil)", ""},
	})
}

// P17.1: what a truth comes to has no parts.
func TestFoldedTruth(t *testing.T) {
	for _, text := range []string{"(#eq 1 1)", "(#eq 1 2)"} {
		if got := rewritten(t, read(text), 0, api.RuleFold); core.CheckExpr(api.Prog{Cons: core.Builtin()}, got, nil) != api.OK {
			t.Errorf("%s: %s", text, brief(got))
		}
	}
}

// P17.1: of seq what comes behind, if what is ahead is a number, a character, a constructor, a lambda.
func TestSeq(t *testing.T) {
	allBecome(t, api.RuleSeq, []told{
		{0, "(#seq 1 (f 2))", "(f 2)"},
		{0, "(#seq '97' x)", "x"},
		{0, "(#seq (Nil) 2)", "2"},
		{0, "(#seq (Cons (f 1) x) (\\ x -> x))", "(\\ x -> x)"},
		{0, "(#seq (\\ x -> (f x)) (#seq 1 2))", "(#seq 1 2)"},
		{0, "(#seq (#seq 1 2) 3)", ""},
		{1, "(#seq (#seq 1 2) 3)", "(#seq 2 3)"},
		{0, "(#seq x 2)", ""},
		{0, "(#seq (f 1) 2)", ""},
		{0, "(#seq (#add 1 2) 3)", ""},
		{0, "(#seq (let x = 1 in x) 3)", ""},
		{0, "(#seq (let x = 1 in (\\ y -> x)) 3)", ""},
		{0, "(#seq (case 1 of 1 -> 2) 3)", ""},
		{0, "(#seq (#ret 1) 3)", ""},
		{0, "(#seq (#getc) 3)", ""},
		{0, "(#seq (#error (Nil)) 3)", ""},
		{0, "(#bind 1 2)", ""},
		{0, "(#bind (Nil) 2)", ""},
		{0, "(#add 1 2)", ""},
		{0, "(#error 1)", ""},
		{0, "(#show 1)", ""},
		{0, "(#ret 1)", ""},
		{0, "(#getc)", ""},
		{0, "(seq 1 2)", ""},
		{0, "(Cons 1 2)", ""},
		{0, "((\\ x -> x) 1)", ""},
		{0, "1", ""},
	})
}
