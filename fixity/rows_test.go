package fixity_test

import (
	"fmt"
	"strconv"
	"strings"
	"testing"

	"thunkmill/api"
	"thunkmill/fixity"
	"thunkmill/syntax"
)

// reader makes nodes from short texts whose words stand apart by one blank each; places are those in the text. A name in back quotes is an operator; a - where an operand is asked for is a negation. A row may stand in ( ), which is an NdParen in expressions and an NdPLazy in patterns, or in { }, which is nothing but the row within.
type reader struct {
	words   []string
	at      int
	pattern bool
}

func (r *reader) next() string {
	w := r.words[0]
	r.words = r.words[1:]
	r.at += len(w) + 1
	return w
}

func (r *reader) row() api.Node {
	n := api.Node{Kind: r.kind(api.NdOps, api.NdPOps), At: r.at}
	n.Kids = append(n.Kids, r.operand())
	for len(r.words) > 0 && r.words[0] != ")" && r.words[0] != "}" {
		op := api.Node{Kind: api.NdOp, At: r.at}
		op.Name = strings.Trim(r.next(), "`")
		n.Kids = append(n.Kids, op, r.operand())
	}
	if len(n.Kids) == 1 {
		return n.Kids[0]
	}
	return n
}

func (r *reader) operand() api.Node {
	at := r.at
	w := r.next()
	switch {
	case w == "-":
		return api.Node{Kind: api.NdNeg, At: at, Kids: []api.Node{r.operand()}}
	case w == "{" || w == "(":
		n := r.row()
		r.next()
		if w == "{" {
			return n
		}
		return api.Node{Kind: r.kind(api.NdParen, api.NdPLazy), At: at, Kids: []api.Node{n}}
	case w[0] <= '9':
		num, err := strconv.ParseInt(w, 10, 64)
		if err != nil {
			panic(err)
		}
		return api.Node{Kind: r.kind(api.NdInt, api.NdPInt), Num: num, At: at}
	case w[0] <= 'Z':
		return api.Node{Kind: r.kind(api.NdCon, api.NdPCon), Name: w, At: at}
	}
	return api.Node{Kind: r.kind(api.NdVar, api.NdPVar), Name: w, At: at}
}

func (r *reader) kind(expression, pattern int) int {
	if r.pattern {
		return pattern
	}
	return expression
}

func expression(text string) api.Node {
	r := reader{words: strings.Fields(text)}
	return r.row()
}

func pattern(text string) api.Node {
	r := reader{words: strings.Fields(text), pattern: true}
	return r.row()
}

// told writes a node as the chapter's examples do: an operator ahead of its operands, neg ahead of what is negated. An NdParen is written [e], other kinds by number.
func told(n api.Node) string {
	l := make([]string, len(n.Kids))
	for i, k := range n.Kids {
		l[i] = told(k)
		if applies := k.Kind == api.NdApp || k.Kind == api.NdNeg || k.Kind == api.NdPCon; applies && len(k.Kids) > 0 && n.Kind != api.NdParen {
			l[i] = "(" + l[i] + ")"
		}
	}
	parts := strings.Join(l, " ")
	switch n.Kind {
	case api.NdVar, api.NdCon, api.NdPVar:
		return n.Name
	case api.NdInt, api.NdPInt:
		return strconv.FormatInt(n.Num, 10)
	case api.NdApp:
		return parts
	case api.NdNeg:
		return "neg " + parts
	case api.NdParen:
		return "[" + parts + "]"
	case api.NdPLazy:
		return "~" + parts
	case api.NdPCon:
		return strings.TrimSpace(n.Name + " " + parts)
	}
	return fmt.Sprint(n.Kind, " ", n.Name, " ", n.Num, " ", parts)
}

// placesTold writes the places of a node and its kids, a node ahead of its kids.
func placesTold(n api.Node) string {
	s := strconv.Itoa(n.At)
	for _, k := range n.Kids {
		s += " " + placesTold(k)
	}
	return s
}

// holds reads a table from words by threes, as the chapter writes one: + left 6.
func holds(text string) []api.Fixity {
	sides := map[string]int{"left": 1, "right": 2, "none": 3}
	words := strings.Fields(text)
	var l []api.Fixity
	for i := 0; i < len(words); i += 3 {
		level, err := strconv.Atoi(words[i+2])
		if err != nil {
			panic(err)
		}
		l = append(l, api.Fixity{Name: words[i], Side: sides[words[i+1]], Level: level})
	}
	return l
}

// builtin are the built-in operators as the chapter tells of them.
func builtin() []api.Fixity {
	return holds("$ right 0 >>= left 1 >> left 1 || right 2 && right 3 == none 4 /= none 4 < none 4 <= none 4 > none 4 >= none 4 : right 5 ++ right 5 + left 6 - left 6 * left 7 . right 9 quot left 7 rem left 7 div left 7 mod left 7")
}

// checkOrder holds what a node comes to to what is told of it: a ! and a place for ErrFixity there.
func checkOrder(t *testing.T, what string, n api.Node, l []api.Fixity, want string) {
	t.Helper()
	got, f := fixity.Resolve(n, l)
	if strings.HasPrefix(want, "!") {
		at, err := strconv.Atoi(want[1:])
		if err != nil {
			t.Fatal(err)
		}
		checkFault(t, what, got, f, api.Fault{Err: api.ErrFixity, At: at})
		return
	}
	if f != (api.Fault{}) || told(got) != want {
		t.Errorf("%s: %s, %v, want %s", what, told(got), f, want)
	}
}

// checkFault holds an answer to a fault, with which there is nothing else.
func checkFault(t *testing.T, what string, got api.Node, f, want api.Fault) {
	t.Helper()
	if f != want {
		t.Errorf("%s: %v, want %v", what, f, want)
	}
	if want.Err != api.OK && (!syntax.Same(got, api.Node{}) || got.At != 0) {
		t.Errorf("%s: %v with a fault", what, got)
	}
}
