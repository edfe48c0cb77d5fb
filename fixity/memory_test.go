package fixity_test

import (
	"reflect"
	"slices"
	"testing"

	"thunkmill/api"
	"thunkmill/fixity"
	"thunkmill/syntax"
	"thunkmill/testkit"
)

// trees are nodes whose operators can be brought in order, one of each sort of work, and some without any.
func trees() []api.Node {
	of := func(kind int, kids ...api.Node) api.Node { return api.Node{Kind: kind, Kids: kids} }
	return []api.Node{
		expression("a + b * c"), expression("a : b : c : d"), expression("- a * b + c"), expression("a == - ( - { b + 1 } ) : c"), expression("{ a . b } * { - c . d }"),
		pattern("a : b : c"), pattern("( a : b ) : 1"), expression("a"), expression("- a"), expression("( a )"), of(api.NdList), of(api.NdPList, pattern("a")),
		program(), program(declares(5, "infixr", 1, "+"), bind(expression("a + b + c"), bind(expression("a * b")))),
		of(api.NdLam, pattern("a : b"), pattern("c"), expression("a + b")), of(api.NdApp, expression("f"), expression("a + b"), expression("1")),
	}
}

func spareTable() []api.Fixity {
	l := append(builtin(), api.Fixity{Name: "%", Side: 8, Level: 8}, api.Fixity{Name: "+", Side: -8, Level: -8})
	return l[:len(l)-2]
}

// lists calls f with all lists of a tree, their spare room with them.
func lists(n *api.Node, f func(l []api.Node)) {
	testkit.Each(n, func(n *api.Node) { f(n.Kids[:cap(n.Kids)]) })
}

// What is answered and what was handed in have no memory in common, and no two lists of an answer have.
func TestResolveAnswersNewMemory(t *testing.T) {
	for _, tree := range trees() {
		handed, l := testkit.Spare(testkit.Placed(tree)), spareTable()
		before := testkit.Copied(handed)
		got, f := fixity.Resolve(handed, l)
		if f != (api.Fault{}) {
			t.Fatalf("%s: %v", told(tree), f)
		}
		want := testkit.Copied(got)
		checkUntouched(t, handed, before)
		if !slices.Equal(l[:len(l)+2], append(builtin(), spareTable()[len(l):len(l)+2]...)) {
			t.Errorf("%s: the table is changed", told(tree))
		}
		owned := map[*api.Node]struct{}{}
		lists(&handed, func(l []api.Node) {
			for i := range l {
				owned[&l[i]] = struct{}{}
			}
		})
		lists(&got, func(l []api.Node) {
			for i := range l {
				if _, twice := owned[&l[i]]; twice {
					t.Errorf("%s: memory of %s is in two lists", told(tree), told(l[i]))
				}
				owned[&l[i]] = struct{}{}
			}
		})
		testkit.Overwrite(&handed)
		overwriteTable(l)
		if !reflect.DeepEqual(testkit.Copied(got), want) {
			t.Errorf("%s: the answer heeds what was handed in", told(tree))
		}
	}
}

func overwriteTable(l []api.Fixity) {
	l = l[:cap(l)]
	for i := range l {
		l[i] = api.Fixity{Name: "overwritten", Side: -5, Level: -5}
	}
}

func checkUntouched(t *testing.T, handed, before api.Node) {
	t.Helper()
	if !reflect.DeepEqual(testkit.Copied(handed), before) {
		t.Errorf("%s: what was handed in is changed", told(before))
	}
	testkit.Each(&handed, func(n *api.Node) {
		for _, k := range n.Kids[len(n.Kids):cap(n.Kids)] {
			if !reflect.DeepEqual(k, testkit.Marked()) {
				t.Errorf("%s: spare room is written", told(before))
			}
		}
	})
}

// What is handed in, and what a later call answers, heed no change of an answer.
func TestAnswersAreNotKept(t *testing.T) {
	for _, tree := range trees() {
		handed, l := testkit.Spare(testkit.Placed(tree)), spareTable()
		before := testkit.Copied(handed)
		first, _ := fixity.Resolve(handed, l)
		want := testkit.Copied(first)
		testkit.Overwrite(&first)
		checkUntouched(t, handed, before)
		again, f := fixity.Resolve(handed, l)
		if f != (api.Fault{}) || !reflect.DeepEqual(testkit.Copied(again), want) {
			t.Errorf("%s: a later answer heeds a change of one ahead", told(tree))
		}
	}
}

func TestAllAndTableAnswerNewMemory(t *testing.T) {
	made := program(declares(5, "infixr", 1, "+", "%"), bind(expression("a + b + c * d")))
	handed := testkit.Spare(made)
	before := testkit.Copied(handed)
	table, _ := fixity.Table(handed)
	again, _ := fixity.Table(handed)
	got, _ := fixity.All(handed)
	want := testkit.Copied(got)
	checkUntouched(t, handed, before)
	overwriteTable(table)
	if !slices.Equal(again, with(holds("+ right 1 % right 1"))) {
		t.Errorf("a table heeds a change of another one: %v", again)
	}
	other, _ := fixity.All(handed)
	testkit.Overwrite(&other)
	checkUntouched(t, handed, before)
	testkit.Overwrite(&handed)
	if !reflect.DeepEqual(testkit.Copied(got), want) || !slices.Equal(again, with(holds("+ right 1 % right 1"))) {
		t.Errorf("an answer heeds what was handed in: %s, %v", told(got), again)
	}
}

// A list that stands at several places of what is handed in is answered at each of them in memory of its own.
func TestListsThatAreShared(t *testing.T) {
	twice := expression("a + b * c")
	n := api.Node{Kind: api.NdList, Kids: []api.Node{twice, twice, {Kind: api.NdParen, Kids: []api.Node{twice}}, expression("a")}}
	n.Kids[3].Kids = n.Kids[3].Kids[:0]
	got, f := fixity.Resolve(n, builtin())
	if f != (api.Fault{}) {
		t.Fatal(f)
	}
	want := testkit.Copied(got)
	for i := range 2 {
		got.Kids[i].Kids[1].Name, want.Kids[i].Kids[1].Name = "z", "z"
		got.Kids[i].Kids[2].Kids[1].Name, want.Kids[i].Kids[2].Kids[1].Name = "y", "y"
		if !reflect.DeepEqual(got, want) {
			t.Errorf("a change of part %d is seen elsewhere: %s", i, told(got))
		}
	}
	if !syntax.Same(twice, expression("a + b * c")) {
		t.Errorf("what was handed in heeds the answer")
	}
}
