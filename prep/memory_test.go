package prep_test

import (
	"reflect"
	"slices"
	"testing"

	"thunkmill/api"
	"thunkmill/core"
	"thunkmill/prep"
	"thunkmill/testkit"
)

// handedIn are programs as they may be, prepared and not.
func handedIn() []api.Prog {
	l := madeProgs(186, 250)
	for _, x := range later() {
		l = append(l, program(read(x[0])), program(read(x[1])))
	}
	for _, p := range slices.Clone(l) {
		q, _ := prep.Prep(p)
		l = append(l, q)
	}
	return l
}

// callAll makes each call of a program and of its expressions, and has the answers in one text.
func callAll(t *testing.T, p api.Prog) string {
	t.Helper()
	q, err := prep.Prep(p)
	if err != api.OK {
		t.Errorf("Prep of %s: error %d", brief(p), err)
	}
	text := core.ProgText(q)
	for _, name := range prep.Names(p) {
		text += " " + name
	}
	for _, b := range p.Binds {
		text += told(prep.Atom(b.E)) + told(prep.Normal(b.E))
	}
	return text + told(prep.Prepared(p))
}

func told(is bool) string {
	if is {
		return " is"
	}
	return " is not"
}

// Rule 4: what is handed in is as it was, and its spare room counts nothing.
func TestHandedInStays(t *testing.T) {
	for _, plain := range handedIn() {
		p := testkit.SpareProg(plain)
		was := testkit.WholeProg(p)
		if got, want := callAll(t, p), callAll(t, plain); got != want {
			t.Fatalf("with spare room: %s, want %s", got, want)
		}
		if !reflect.DeepEqual(testkit.WholeProg(p), was) {
			t.Fatalf("what was handed in is changed: %s", brief(plain))
		}
	}
}

// Rule 4: what is answered is new memory, of which no two parts are one, its spare room too.
func TestAnswersAreTheCallers(t *testing.T) {
	for _, plain := range handedIn() {
		p := testkit.SpareProg(plain)
		was, want := testkit.WholeProg(p), callAll(t, plain)
		memory := testkit.Memory{}
		memory.OwnProg(p)
		q, _ := prep.Prep(p)
		text := core.ProgText(q)
		if !memory.OwnProg(q) {
			t.Fatalf("Prep of %s: %s has parts in memory that is not its own", brief(plain), text)
		}
		l := prep.Names(p)
		testkit.OverwriteProg(q)
		testkit.OverwriteNames(l)
		if !reflect.DeepEqual(testkit.WholeProg(p), was) || callAll(t, p) != want {
			t.Fatalf("what was handed in heeds an answer: %s", brief(p))
		}
	}
}

// Rule 4: an answer stays as it is, whatever is done to what was handed in.
func TestAnswersStay(t *testing.T) {
	for _, plain := range handedIn() {
		p := testkit.SpareProg(plain)
		q, _ := prep.Prep(p)
		l := prep.Names(p)
		text, names := core.ProgText(q), slices.Clone(l)
		testkit.OverwriteProg(p)
		if core.ProgText(q) != text || !slices.Equal(l, names) {
			t.Fatalf("an answer heeds what was handed in: %s, want %s", brief(q), text)
		}
	}
}

// Rule 4: lists that are one in memory are prepared each by itself.
func TestSharedLists(t *testing.T) {
	lam := read("(\\ x -> (f (x x)))")
	p := program(api.Expr{Kind: api.ExApp, Args: list(lam, lam, lam)})
	want := read("(let a = (\\ x -> (let c = (x x) in (f c))); b = (\\ x -> (let c = (x x) in (f c))) in ((\\ x -> (let c = (x x) in (f c))) a b))")
	if q := prepared(t, p); !core.Same(mainOf(q), want) || len(prep.Names(q)) != 8 {
		t.Errorf("Prep of %s: %s", brief(p), brief(q))
	}
	if text := core.Text(lam); text != "(\\ x -> (f (x x)))" {
		t.Errorf("what was handed in is changed: %s", text)
	}
}

// Rule 8, T6: what a call answers hangs on what it is given alone: it is the same again, names and all, whatever was called in between, and from whatever goroutine.
func TestAgain(t *testing.T) {
	l := handedIn()
	for _, wrong := range testkit.Again(len(l), func(i int) string { return callAll(t, l[i]) }) {
		t.Error(wrong)
	}
}
