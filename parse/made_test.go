package parse_test

import (
	"math/rand"
	"strings"
	"testing"

	"thunkmill/api"
	"thunkmill/lex"
	"thunkmill/parse"
	"thunkmill/syntax"
	"thunkmill/testkit"
)

// made are texts that are made by chance, and their trees.
func made(each func(seed int64, text string, tree api.Node)) {
	for seed := range int64(1500) {
		m := newMaker(seed)
		tree := m.program(1 + int(seed%4)/2)
		each(seed, m.text.String(), tree)
	}
}

// TestMade: texts that are made by chance are read as the trees that were made with them, places and all (P6.1, P6.3).
func TestMade(t *testing.T) {
	t.Parallel()
	made(func(seed int64, text string, tree api.Node) {
		n, f := parse.Raw(text)
		if f != (api.Fault{}) || placed(n) != placed(tree) {
			t.Fatalf("seed %d: %v\n%s\ngot  %s\nwant %s", seed, f, text, placed(n), placed(tree))
		}
		testkit.Each(&n, func(n *api.Node) {
			if n.At < 0 || n.At > len(text) {
				t.Fatalf("seed %d: a place that is none: %s", seed, placed(*n))
			}
		})
	})
}

// TestMadeExpressions: expressions that are made by chance are read as they are on a right side, but for places (P6.2).
func TestMadeExpressions(t *testing.T) {
	t.Parallel()
	for seed := range int64(1000) {
		m := newMaker(seed)
		m.begins = true
		m.ops(2, true)
		text := m.text.String()
		n, f := parse.Expr(text)
		whole, wholeFault := parse.Parse("x = (" + strings.ReplaceAll("\n"+text, "\n", "\n ") + "\n )")
		if f.Err != wholeFault.Err {
			t.Fatalf("seed %d: Expr %v, on a right side %v\n%s", seed, f, wholeFault, text)
		}
		if f == (api.Fault{}) && !syntax.Same(syntax.Strip(n), syntax.Strip(whole.Kids[0].Kids[1].Kids[0])) {
			t.Fatalf("seed %d:\n%s\ngot  %s\nwant %s", seed, text, told(n), told(whole))
		}
	}
}

// TestTextIsReadAgain: a tree that is told as a text and read again is the same up to NdParen (P6.3).
func TestTextIsReadAgain(t *testing.T) {
	t.Parallel()
	read := 0
	made(func(seed int64, text string, _ api.Node) {
		n, f := parse.Parse(text)
		if f != (api.Fault{}) {
			if f.Err != api.ErrFixity && f.Err != api.ErrScope {
				t.Fatalf("seed %d: %v", seed, f)
			}
			return
		}
		read++
		again, e := syntax.Text(n)
		m, f := parse.Parse(again)
		if e != api.OK || f != (api.Fault{}) || !syntax.Same(syntax.Strip(n), syntax.Strip(m)) {
			t.Fatalf("seed %d: %v\n%s\ntold %s", seed, f, text, again)
		}
	})
	if read < 600 {
		t.Errorf("only %d texts have operators that can be brought in order", read)
	}
}

// TestRawTextIsReadAgain: so is a tree whose operators are in their rows.
func TestRawTextIsReadAgain(t *testing.T) {
	t.Parallel()
	made(func(seed int64, text string, tree api.Node) {
		again, e := syntax.Text(tree)
		m, f := parse.Raw(again)
		if e != api.OK || f != (api.Fault{}) || !syntax.Same(syntax.Strip(tree), syntax.Strip(m)) {
			t.Fatalf("seed %d: %v\n%s\ntold %s", seed, f, text, again)
		}
	})
}

// TestBrokenIntoLines: a text in braces all through is read alike, however it is broken into lines (P6.3).
func TestBrokenIntoLines(t *testing.T) {
	t.Parallel()
	made(func(seed int64, text string, tree api.Node) {
		tokens, e := syntax.Lexemes(tree)
		if e != api.OK {
			t.Fatalf("seed %d: %d", seed, e)
		}
		chance := rand.New(rand.NewSource(seed))
		var b strings.Builder
		for _, x := range tokens {
			b.WriteString([]string{" ", "  ", "\n", "\n  ", "\t", "\n\t ", " -- in\n", "{- of\n -}"}[chance.Intn(8)])
			b.WriteString(lex.Text(x))
		}
		whole, f := parse.Raw(lex.Join(tokens))
		broken, g := parse.Raw(b.String())
		if f != (api.Fault{}) || g != (api.Fault{}) || !syntax.Same(whole, broken) {
			t.Fatalf("seed %d: %v %v\n%s", seed, f, g, b.String())
		}
	})
}

// TestTreesAreReadBack: the tree that is read from the text of a program is the same up to parentheses (P4.3).
func TestTreesAreReadBack(t *testing.T) {
	t.Parallel()
	trees := testkit.Trees{Chance: rand.New(rand.NewSource(6))}
	for i := range 3000 {
		n := trees.Tree(api.NdProgram, 3+i%4)
		testkit.Each(&n, plain)
		n = syntax.Strip(n)
		text, e := syntax.Text(n)
		if e != api.OK {
			t.Fatalf("%s: %d", told(n), e)
		}
		for name, read := range map[string]reader{"Raw": parse.Raw, "Parse": parse.Parse} {
			got, f := read(text)
			if f.Err == api.ErrScope && name == "Parse" {
				continue // an operator is told of twice
			}
			if f != (api.Fault{}) || !syntax.Same(syntax.Strip(got), n) {
				t.Fatalf("%s of %s: %v\ngot  %s\nwant %s", name, text, f, told(got), told(n))
			}
		}
	}
}

// plain makes a list of operands and operators, and leaves no section of a - , which would be read as a negation.
func plain(n *api.Node) {
	switch n.Kind {
	case api.NdOps, api.NdPOps:
		var operands []api.Node
		for i, k := range n.Kids {
			if i%2 == 0 {
				operands = append(operands, k)
			}
		}
		n.Kids = operands
		n.Kind = map[int]int{api.NdOps: api.NdList, api.NdPOps: api.NdPList}[n.Kind]
	case api.NdRight:
		if n.Name == "-" {
			n.Name = "+"
		}
	}
}
