package occur_test

import (
	"fmt"
	"math/rand"
	"slices"
	"strings"
	"testing"

	"thunkmill/api"
	"thunkmill/core"
	"thunkmill/occur"
	"thunkmill/testkit"
)

// read is the expression of a text as chapter 7 tells it.
func read(text string) api.Expr { return testkit.MustCore(text) }

func variable(name string) api.Expr { return api.Expr{Kind: api.ExVar, Name: name} }

func number(n int64) api.Expr { return api.Expr{Kind: api.ExInt, Num: n} }

func list(l ...api.Expr) []api.Expr { return l }

func names(l ...string) []string { return l }

// cons are the built-in constructors and some others.
func cons() []api.Con {
	return append(core.Builtin(), api.Con{Name: "Triple", Arity: 3, Type: "Triple"})
}

// byChance makes expressions of few names, as chapter 7's table says.
func byChance(seed int64) testkit.Exprs {
	x := testkit.Exprs{Chance: rand.New(rand.NewSource(seed)), Names: names("x", "y", "z", "v1"), Cons: cons()}
	for _, name := range strings.Fields("add seq ord chr error show ret bind getc putc") {
		x.Prims = append(x.Prims, testkit.Prim{Name: name, Arity: core.Arity(name)})
	}
	return x
}

// word is an occurrence as the chapter's examples tell it.
func word(occ int) string {
	words := names("none", "dead", "once", "branch", "lam", "many")
	if occ < 0 || occ >= len(words) {
		return fmt.Sprint("unknown ", occ)
	}
	return words[occ]
}

// occText are binders and their occurrences in one line.
func occText(l []api.Occ) string {
	var words []string
	for _, o := range l {
		words = append(words, o.Name+" "+word(o.Occ))
	}
	return strings.Join(words, ", ")
}

// brief is the text of an expression that may be great, with its fields if it may not be.
func brief(e api.Expr) string {
	text := core.Text(e)
	if core.CheckExpr(api.Prog{Cons: cons()}, e, core.Free(e)) != api.OK {
		text = fmt.Sprintf("%+v", e)
	}
	return fmt.Sprintf("%.600s", text)
}

func ofIs(t *testing.T, e api.Expr, name, want string) {
	t.Helper()
	if got, err := occur.Of(e, name); word(got) != want || err != api.OK {
		t.Errorf("Of %.60q in %s: %s, error %d, want %s", name, brief(e), word(got), err, want)
	}
}

func countIs(t *testing.T, e api.Expr, name string, want int) {
	t.Helper()
	if got, err := occur.Count(e, name); got != want || err != api.OK {
		t.Errorf("Count %.60q in %s: %d, error %d, want %d", name, brief(e), got, err, want)
	}
}

func allIs(t *testing.T, e api.Expr, want string) {
	t.Helper()
	if got, err := occur.All(e); occText(got) != want || err != api.OK {
		t.Errorf("All of %s: %.300s, error %d, want %.300s", brief(e), occText(got), err, want)
	}
}

// all are the binders of an expression that is neither too great nor too deep.
func all(t *testing.T, e api.Expr) []api.Occ {
	t.Helper()
	l, err := occur.All(e)
	if err != api.OK {
		t.Fatalf("All of %s: error %d", brief(e), err)
	}
	return l
}

// occsOf are the occurrences without the names.
func occsOf(l []api.Occ) []int {
	var occs []int
	for _, o := range l {
		occs = append(occs, o.Occ)
	}
	return occs
}

// sorted are the keys of a map, so that tests go through it in one order.
func sorted[V any](m map[string]V) []string {
	var l []string
	for k := range m {
		l = append(l, k)
	}
	slices.Sort(l)
	return l
}
