package lift_test

import (
	"fmt"
	"reflect"
	"slices"
	"strings"
	"testing"

	"thunkmill/api"
	"thunkmill/core"
	"thunkmill/lift"
	"thunkmill/prep"
	"thunkmill/testkit"
)

// read is the expression of a text as chapter 7 tells it.
func read(text string) api.Expr { return testkit.MustCore(text) }

func variable(name string) api.Expr { return api.Expr{Kind: api.ExVar, Name: name} }

func number(n int64) api.Expr { return api.Expr{Kind: api.ExInt, Num: n} }

func list(l ...api.Expr) []api.Expr { return l }

// around are the Binds of programs beside their main.
func around() []string {
	return []string{"g = (\\ ga gb -> (#add ga gb))", "h = (\\ ha -> ha)", "k = 7"}
}

// program has an expression as its main, and what is around it.
func program(text string) api.Prog {
	return testkit.Prog(append(around(), "main = "+text)...)
}

// with has more Binds than a program.
func with(p api.Prog, lines ...string) api.Prog {
	p.Binds = slices.Concat(p.Binds, testkit.Prog(lines...).Binds)
	slices.SortFunc(p.Binds, func(a, b api.Bind) int { return strings.Compare(a.Name, b.Name) })
	return p
}

// mainOf is a program's main.
func mainOf(p api.Prog) api.Expr {
	at := slices.IndexFunc(p.Binds, func(b api.Bind) bool { return b.Name == "main" })
	return p.Binds[at].E
}

// brief is the text of a program that may be great.
func brief(p api.Prog) string { return fmt.Sprintf("%.3000s", core.ProgText(p)) }

// namesOf are the names of a program's Binds.
func namesOf(p api.Prog) []string {
	var l []string
	for _, b := range p.Binds {
		l = append(l, b.Name)
	}
	return l
}

// newNames are those of so many Binds that come to a program.
func newNames(p api.Prog, n int) []string {
	var l []string
	for i := 1; len(l) < n; i++ {
		if name := fmt.Sprint("~", i); !slices.Contains(namesOf(p), name) {
			l = append(l, name)
		}
	}
	return l
}

// lifted is a prepared program, lifted, which is held to what follows of that.
func lifted(t *testing.T, p api.Prog) api.Prog {
	t.Helper()
	if !prep.Prepared(p) {
		t.Fatalf("it is not prepared: %s", brief(p))
	}
	q, err := lift.Lift(p)
	if err != api.OK {
		t.Fatalf("Lift of %s: error %d", brief(p), err)
	}
	if err := core.Check(q); err != api.OK || !prep.Prepared(q) || !slices.Equal(q.Cons, p.Cons) {
		t.Fatalf("Lift of %s: Check is %d, Prepared is %v: %s", brief(p), err, prep.Prepared(q), brief(q))
	}
	want := slices.Sorted(slices.Values(append(namesOf(p), newNames(p, len(q.Binds)-len(p.Binds))...)))
	if got := namesOf(q); !slices.Equal(got, want) {
		t.Fatalf("Lift of %s: its Binds are %s, want %s", brief(p), got, want)
	}
	return q
}

// lifts holds Lift to what it makes of an expression, and of the lines that it becomes beside that.
func lifts(t *testing.T, from, want string, lines ...string) {
	t.Helper()
	p, w := program(from), with(program(want), lines...)
	if q := lifted(t, p); !core.SameProg(q, w) {
		t.Errorf("Lift of %s:\n%s\nwant\n%s", from, brief(q), brief(w))
	}
	if q, err := refLifted(p); err != api.OK || !core.SameProg(q, w) {
		t.Errorf("the reference lifts %s otherwise:\n%s", from, brief(q))
	}
}

// stays holds Lift to making nothing else of an expression.
func stays(t *testing.T, text string) {
	t.Helper()
	lifts(t, text, text)
}

// counts holds Count to how many lets of an expression, as it stands, are known and fit.
func counts(t *testing.T, text string, want int) {
	t.Helper()
	if n := lift.Count(program(text)); n != want {
		t.Errorf("Count of %s: %d, want %d", text, n, want)
	}
}

// knows holds Known to what it is to tell of a let.
func knows(t *testing.T, text string, want bool) {
	t.Helper()
	if is := lift.Known(program("1"), read(text)); is != want {
		t.Errorf("Known of %s: %v", text, is)
	}
}

// refuses holds Lift to an error, and to nothing beside it.
func refuses(t *testing.T, what string, p api.Prog, want api.Errno) {
	t.Helper()
	if q, err := lift.Lift(p); err != want || !reflect.DeepEqual(q, api.Prog{}) {
		t.Errorf("Lift, %s: %s, error %d, want %d", what, brief(q), err, want)
	}
}
