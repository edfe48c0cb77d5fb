package prep_test

import (
	"fmt"
	"math/rand"
	"reflect"
	"slices"
	"testing"

	"thunkmill/api"
	"thunkmill/core"
	"thunkmill/prep"
	"thunkmill/testkit"
)

// read is the expression of a text as chapter 7 tells it.
func read(text string) api.Expr { return testkit.MustCore(text) }

func variable(name string) api.Expr { return api.Expr{Kind: api.ExVar, Name: name} }

func number(n int64) api.Expr { return api.Expr{Kind: api.ExInt, Num: n} }

func list(l ...api.Expr) []api.Expr { return l }

// seeded makes programs by chance.
func seeded(seed int64) *testkit.Maker {
	return &testkit.Maker{Chance: rand.New(rand.NewSource(seed))}
}

// cons are some constructors, one of four parts among them.
func cons() []api.Con {
	return append(testkit.Cons(), api.Con{Name: "Four", Arity: 4, Type: "Zed"})
}

// program has an expression as its main, and what is free in it as its other bindings.
func program(e api.Expr) api.Prog {
	p := api.Prog{Cons: cons()}
	for _, name := range slices.Compact(slices.Sorted(slices.Values(append(core.Free(e), "main")))) {
		b := api.Bind{Name: name, E: number(1)}
		if name == "main" {
			b.E = e
		}
		p.Binds = append(p.Binds, b)
	}
	return p
}

// mainOf is a program's main.
func mainOf(p api.Prog) api.Expr {
	for _, b := range p.Binds {
		if b.Name == "main" {
			return b.E
		}
	}
	return api.Expr{}
}

// brief is the text of a program that may be great.
func brief(p api.Prog) string { return fmt.Sprintf("%.900s", core.ProgText(p)) }

// prepared is a program as it may be, prepared, which is held to what follows of that.
func prepared(t *testing.T, p api.Prog) api.Prog {
	t.Helper()
	q, err := prep.Prep(p)
	if err != api.OK {
		t.Fatalf("Prep of %s: error %d", brief(p), err)
	}
	if err := core.Check(q); err != api.OK || !slices.Equal(q.Cons, p.Cons) || !slices.Equal(namesOf(q), namesOf(p)) {
		t.Fatalf("Prep of %s: Check is %d: %s", brief(p), err, brief(q))
	}
	if !prep.Prepared(q) || !refPrepared(q) {
		t.Fatalf("Prep of %s is not prepared: %s", brief(p), brief(q))
	}
	if again, err := prep.Prep(q); err != api.OK || !core.SameProg(again, q) {
		t.Fatalf("Prep again: error %d, %s, was %s", err, brief(again), brief(q))
	}
	return q
}

// namesOf are the names of a program's bindings.
func namesOf(p api.Prog) []string {
	var l []string
	for _, b := range p.Binds {
		l = append(l, b.Name)
	}
	return l
}

// becomes holds Prep to what it makes of an expression.
func becomes(t *testing.T, from, want string) {
	t.Helper()
	p, w := program(read(from)), program(read(want))
	if q := prepared(t, p); !core.SameProg(q, w) {
		t.Errorf("Prep of %s: %s, want %s", from, core.Text(mainOf(q)), want)
	}
	if is := prep.Prepared(p); is != refPrepared(p) {
		t.Errorf("Prepared of %s: %v", from, is)
	}
}

// stays holds Prep to making nothing else of an expression.
func stays(t *testing.T, text string) {
	t.Helper()
	becomes(t, text, text)
	if !prep.Normal(read(text)) {
		t.Errorf("Normal of %s: false", text)
	}
}

// refuses holds Prep to an error, and to nothing beside it.
func refuses(t *testing.T, what string, p api.Prog, want api.Errno) {
	t.Helper()
	if q, err := prep.Prep(p); err != want || !reflect.DeepEqual(q, api.Prog{}) {
		t.Errorf("Prep, %s: %s, error %d, want %d", what, brief(q), err, want)
	}
}
