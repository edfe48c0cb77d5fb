package scope_test

import (
	"slices"
	"strings"
	"testing"

	"thunkmill/api"
	"thunkmill/parse"
	"thunkmill/scope"
	"thunkmill/syntax"
)

// parsed is the tree of a text, its operators brought in order.
func parsed(t *testing.T, text string) api.Node {
	t.Helper()
	n, f := parse.Parse(text)
	if f != (api.Fault{}) {
		t.Fatalf("%q can't be read: %v", text, f)
	}
	return n
}

// rows is the tree of a text, its operators left in their rows.
func rows(t *testing.T, text string) api.Node {
	t.Helper()
	n, f := parse.Raw(text)
	if f != (api.Fault{}) {
		t.Fatalf("%q can't be read: %v", text, f)
	}
	return n
}

// expression is the tree of a text that is an expression.
func expression(t *testing.T, text string) api.Node {
	t.Helper()
	n, f := parse.Expr(text)
	if f != (api.Fault{}) {
		t.Fatalf("%q can't be read: %v", text, f)
	}
	return n
}

// mark stands in a test's text ahead of the place of its fault.
const mark = "»"

// unmarked is a text without its mark, and where that stood.
func unmarked(t *testing.T, text string) (string, int) {
	t.Helper()
	if strings.Count(text, mark) != 1 {
		t.Fatalf("%q has no place of its own", text)
	}
	return strings.Replace(text, mark, "", 1), strings.Index(text, mark)
}

// checkFine asks for programs without a fault.
func checkFine(t *testing.T, texts ...string) {
	t.Helper()
	for _, text := range texts {
		checkFault(t, text, parsed(t, text), api.Fault{})
	}
}

// checkMarked asks for a fault at the mark of each text.
func checkMarked(t *testing.T, e api.Errno, texts ...string) {
	t.Helper()
	for _, marked := range texts {
		text, at := unmarked(t, marked)
		checkFault(t, text, parsed(t, text), api.Fault{Err: e, At: at})
	}
}

func checkFault(t *testing.T, what string, n api.Node, want api.Fault) {
	t.Helper()
	if f := scope.Check(n); f != want {
		t.Errorf("%s: Check = %v, want %v", what, f, want)
	}
}

// checkNames asks for names that are written with blanks between.
func checkNames(t *testing.T, what string, got []string, want string) {
	t.Helper()
	if !slices.Equal(got, strings.Fields(want)) {
		t.Errorf("%s: %v, want %v", what, got, want)
	}
}

// checkMayBe asks for a node that syntax has no error of, so that what a test says of it is not said of nothing.
func checkMayBe(t *testing.T, n api.Node) {
	t.Helper()
	if e := syntax.Check(n); e != api.OK {
		t.Fatalf("%v may not be: %v", n, e)
	}
}

// The parts of trees that no text is needed for.

func node(kind int, kids ...api.Node) api.Node { return api.Node{Kind: kind, Kids: kids} }

func named(kind int, name string, kids ...api.Node) api.Node {
	return api.Node{Kind: kind, Name: name, Kids: kids}
}

func variable(name string) api.Node { return named(api.NdVar, name) }

func number() api.Node { return api.Node{Kind: api.NdInt, Num: 1} }

// bind is the declaration of a name.
func bind(name string, e api.Node) api.Node {
	return node(api.NdBind, named(api.NdPVar, name), node(api.NdRhs, e))
}

// at is a node with a place.
func at(place int, n api.Node) api.Node {
	n.At = place
	return n
}

// lazily is a pattern with so many ~ ahead.
func lazily(p api.Node, times int) api.Node {
	for range times {
		p = node(api.NdPLazy, p)
	}
	return p
}
