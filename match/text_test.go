package match_test

import (
	"strings"
	"testing"

	"thunkmill/api"
	"thunkmill/core"
	"thunkmill/match"
)

// P12.3: the failure is #error of the text no match.
func TestFailure(t *testing.T) {
	checkSame(t, "Failure", match.Failure(), api.OK, failure())
	checkSame(t, "Failure", match.Failure(), api.OK, api.Expr{Kind: api.ExPrim, Name: "error", Args: []api.Expr{match.Text("no match")}})
	if e := core.CheckExpr(api.Prog{Cons: core.Builtin()}, match.Failure(), nil); e != api.OK {
		t.Errorf("it may not be: %v", e)
	}
}

// P12.3: a list of bytes as characters, also of none, and of those above 127.
func TestText(t *testing.T) {
	for s, want := range map[string]string{
		"": "(Nil)", "a": "(Cons '97' (Nil))", "no": "(Cons '110' (Cons '111' (Nil)))", "\x00\n\"\\": "(Cons '0' (Cons '10' (Cons '34' (Cons '92' (Nil)))))",
		"\x80\xff": "(Cons '128' (Cons '255' (Nil)))", "é": "(Cons '195' (Cons '169' (Nil)))", "\xc3": "(Cons '195' (Nil))",
	} {
		got := match.Text(s)
		checkSame(t, s, got, api.OK, expr(t, want))
		if e := core.CheckExpr(api.Prog{Cons: core.Builtin()}, got, nil); e != api.OK {
			t.Errorf("%q may not be: %v", s, e)
		}
	}
	all := make([]byte, 256)
	for i := range all {
		all[i] = byte(i)
	}
	for _, s := range []string{string(all), strings.Repeat("long", 500000)} {
		if got, ok := textOf(match.Text(s)); !ok || got != s {
			t.Errorf("a text of %d bytes is another one", len(s))
		}
	}
}

// textOf is the text of a list of characters.
func textOf(e api.Expr) (string, bool) {
	var s []byte
	for e.Kind == api.ExCon && e.Name == "Cons" && len(e.Args) == 2 && e.Args[0].Kind == api.ExChar {
		s = append(s, byte(e.Args[0].Num))
		e = e.Args[1]
	}
	return string(s), e.Kind == api.ExCon && e.Name == "Nil" && len(e.Args) == 0
}
