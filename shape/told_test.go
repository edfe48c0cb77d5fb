package shape_test

import (
	"slices"
	"sort"
	"strconv"
	"strings"
	"testing"

	"thunkmill/api"
	"thunkmill/parse"
	"thunkmill/shape"
)

// builtin are the constructors of each program, in their order.
func builtin() []api.Con {
	return []api.Con{
		{Name: "False", Arity: 0, Type: "Bool", Tag: 0}, {Name: "True", Arity: 0, Type: "Bool", Tag: 1},
		{Name: "Nil", Arity: 0, Type: "List", Tag: 0}, {Name: "Cons", Arity: 2, Type: "List", Tag: 1},
		{Name: "Tup2", Arity: 2, Type: "Tup2", Tag: 0}, {Name: "Tup3", Arity: 3, Type: "Tup3", Tag: 0}, {Name: "Tup4", Arity: 4, Type: "Tup4", Tag: 0},
		{Name: "Unit", Arity: 0, Type: "Unit", Tag: 0},
	}
}

// cons reads constructors, type by type: T=A/2,B/0 U=C/1 .
func cons(text string) []api.Con {
	var l []api.Con
	for _, word := range strings.Fields(text) {
		of, all, _ := strings.Cut(word, "=")
		for tag, c := range strings.Split(all, ",") {
			name, parts, _ := strings.Cut(c, "/")
			arity, _ := strconv.Atoi(parts)
			l = append(l, api.Con{Name: name, Arity: arity, Type: of, Tag: tag})
		}
	}
	return l
}

// with are the constructors that cons reads among the built-in ones, in their order.
func with(text string) []api.Con { return inOrder(append(cons(text), builtin()...)) }

// inOrder has constructors by rising Type, then Tag.
func inOrder(l []api.Con) []api.Con {
	sort.Slice(l, func(i, j int) bool {
		return l[i].Type < l[j].Type || l[i].Type == l[j].Type && l[i].Tag < l[j].Tag
	})
	return l
}

// parsed is the tree of a text, its operators brought in order.
func parsed(t *testing.T, text string) api.Node {
	t.Helper()
	n, f := parse.Parse(text)
	if f != (api.Fault{}) {
		t.Fatalf("%q can't be read: %v", text, f)
	}
	return n
}

// rows is the tree of a text, its operators left in their rows.
func rows(t *testing.T, text string) api.Node {
	t.Helper()
	n, f := parse.Raw(text)
	if f != (api.Fault{}) {
		t.Fatalf("%q can't be read: %v", text, f)
	}
	return n
}

// mark stands in a test's text ahead of the place of its fault.
const mark = "»"

// unmarked is a text without its mark, and where that stood.
func unmarked(t *testing.T, text string) (string, int) {
	t.Helper()
	if strings.Count(text, mark) != 1 {
		t.Fatalf("%q has no place of its own", text)
	}
	return strings.Replace(text, mark, "", 1), strings.Index(text, mark)
}

func checkCons(t *testing.T, what string, n api.Node, want []api.Con) {
	t.Helper()
	if got, f := shape.Cons(n); f != (api.Fault{}) || !slices.Equal(got, want) {
		t.Errorf("%s: Cons = %v, %v, want %v", what, got, f, want)
	}
}

// checkConsFault asks for a fault that Cons has, and Check likewise.
func checkConsFault(t *testing.T, what string, n api.Node, want api.Fault) {
	t.Helper()
	if got, f := shape.Cons(n); f != want || len(got) > 0 {
		t.Errorf("%s: Cons = %v, %v, want %v", what, got, f, want)
	}
	checkFault(t, what, n, want)
}

func checkFault(t *testing.T, what string, n api.Node, want api.Fault) {
	t.Helper()
	if f := shape.Check(n); f != want {
		t.Errorf("%s: Check = %v, want %v", what, f, want)
	}
}

// The parts of trees that no text is needed for.

func program(kids ...api.Node) api.Node { return api.Node{Kind: api.NdProgram, Kids: kids, At: 3} }

// data is an NdData at a place, whose constructors have the places behind it, and the numbers of parts 0, 1, 2, .. .
func data(at int, name string, names ...string) api.Node {
	n := api.Node{Kind: api.NdData, Name: name, At: at}
	for i, c := range names {
		n.Kids = append(n.Kids, api.Node{Kind: api.NdConDef, Name: c, Num: int64(i), At: at + 1 + i})
	}
	return n
}

func variable(name string) api.Node { return api.Node{Kind: api.NdVar, Name: name} }

// bind is the declaration p = e.
func bind(p, e api.Node) api.Node {
	right := api.Node{Kind: api.NdRhs, Kids: []api.Node{e}}
	return api.Node{Kind: api.NdBind, Kids: []api.Node{p, right}}
}

// lazily is a pattern within so many ~ .
func lazily(p api.Node, deep int) api.Node {
	for range deep {
		p = api.Node{Kind: api.NdPLazy, Kids: []api.Node{p}}
	}
	return p
}
