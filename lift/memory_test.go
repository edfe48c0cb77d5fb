package lift_test

import (
	"fmt"
	"reflect"
	"testing"

	"thunkmill/api"
	"thunkmill/core"
	"thunkmill/lift"
	"thunkmill/testkit"
)

// handedIn are programs made by chance, and some with each thing that is lifted or stays.
func handedIn(t *testing.T) []api.Prog {
	l := made(t, 196, 150)
	for _, text := range growing() {
		l = append(l, program(text))
	}
	return append(l, program(fitting(3, 4, nil)), program("(\\ ~1 -> (let f = (\\ ~2 -> (case ~1 of Cons ~3 ~4 -> (g ~3 ~2); ~5 -> (f ~5))) in (f 1)))"))
}

// callAll makes each call of a program and of its expressions, and has the answers in one text.
func callAll(t *testing.T, p api.Prog) string {
	t.Helper()
	q, err := lift.Lift(p)
	if err != api.OK {
		t.Errorf("Lift of %s: error %d", brief(p), err)
	}
	text := core.ProgText(q) + fmt.Sprint(lift.Count(p))
	for i := range p.Binds {
		text += knownIn(p, &p.Binds[i].E)
	}
	return text
}

// knownIn tells of an expression, and of all in it, whether it is known.
func knownIn(p api.Prog, e *api.Expr) string {
	text := ""
	if e.Kind == api.ExLet {
		text = fmt.Sprint(" ", lift.Known(p, *e))
	}
	for _, part := range refParts(e) {
		text += knownIn(p, part)
	}
	return text
}

// Rule 4: what is handed in is as it was, and its spare room counts nothing.
func TestHandedInStays(t *testing.T) {
	for _, plain := range handedIn(t) {
		p := testkit.SpareProg(plain)
		was := testkit.WholeProg(p)
		if got, want := callAll(t, p), callAll(t, plain); got != want {
			t.Fatalf("with spare room: %s, want %s", got, want)
		}
		if !reflect.DeepEqual(testkit.WholeProg(p), was) {
			t.Fatalf("what was handed in is changed: %s", brief(plain))
		}
	}
}

// Rule 4: what is answered is new memory, of which no two parts are one, its spare room too.
func TestAnswersAreTheCallers(t *testing.T) {
	for _, plain := range handedIn(t) {
		p := testkit.SpareProg(plain)
		was, want := testkit.WholeProg(p), callAll(t, plain)
		memory := testkit.Memory{}
		memory.OwnProg(p)
		q, _ := lift.Lift(p)
		if !memory.OwnProg(q) {
			t.Fatalf("Lift of %s: %s has parts in memory that is not its own", brief(plain), brief(q))
		}
		testkit.OverwriteProg(q)
		if !reflect.DeepEqual(testkit.WholeProg(p), was) || callAll(t, p) != want {
			t.Fatalf("what was handed in heeds an answer: %s", brief(p))
		}
	}
}

// Rule 4: an answer stays as it is, whatever is done to what was handed in.
func TestAnswersStay(t *testing.T) {
	for _, plain := range handedIn(t) {
		p := testkit.SpareProg(plain)
		q, _ := lift.Lift(p)
		text := core.ProgText(q)
		testkit.OverwriteProg(p)
		if core.ProgText(q) != text {
			t.Fatalf("an answer heeds what was handed in: %s, want %s", brief(q), text)
		}
	}
}

// Rule 6: an empty list is as good as none.
func TestEmptyLists(t *testing.T) {
	for _, plain := range handedIn(t) {
		p := plain
		p.Binds = nil
		for _, b := range plain.Binds {
			b.E = core.Copy(b.E)
			emptied(&b.E)
			p.Binds = append(p.Binds, b)
		}
		if got, want := callAll(t, p), callAll(t, plain); got != want {
			t.Fatalf("with empty lists: %s, want %s", got, want)
		}
	}
}

// emptied puts an empty list in the place of each nil one of an expression.
func emptied(e *api.Expr) {
	e.Params, e.Args = append([]string{}, e.Params...), append([]api.Expr{}, e.Args...)
	e.Binds, e.Alts = append([]api.Bind{}, e.Binds...), append([]api.Alt{}, e.Alts...)
	for i := range e.Alts {
		e.Alts[i].Vars = append([]string{}, e.Alts[i].Vars...)
	}
	for _, part := range refParts(e) {
		emptied(part)
	}
}

// Rule 4: lists that are one in memory become each its own.
func TestSharedLists(t *testing.T) {
	ones := list(number(1), number(1))
	args := append(list(variable("f")), ones...)
	call := application(args...)
	e := letOf("f", read("(\\ x -> (#add x y))"), application(variable("g"), number(1)))
	e.Args = list(api.Expr{Kind: api.ExPrim, Name: "add", Args: list(call, call)})
	e.Binds[0].E.Args = list(api.Expr{Kind: api.ExPrim, Name: "sub", Args: list(call, variable("y"))})
	p := program("1")
	for i := range p.Binds {
		if p.Binds[i].Name == "main" {
			p.Binds[i].E = lambda(e, "y")
		}
	}
	want := with(program("(\\ y -> (#add (~1 y 1 1) (~1 y 1 1)))"), "~1 = (\\ a x -> (#sub (~1 a 1 1) a))")
	q := lifted(t, p)
	if !core.SameProg(q, want) || !(testkit.Memory{}).OwnProg(q) {
		t.Errorf("Lift of %s: %s", brief(p), brief(q))
	}
	if text := core.Text(call); text != "(f 1 1)" {
		t.Errorf("what was handed in is changed: %s", text)
	}
}

// Rule 8, T6: what a call answers hangs on what it is given alone: it is the same again, names and all, whatever was called in between, and from whatever goroutine.
func TestAgain(t *testing.T) {
	l := handedIn(t)
	for _, wrong := range testkit.Again(len(l), func(i int) string { return callAll(t, l[i]) }) {
		t.Error(wrong)
	}
}
