package syntax_test

import (
	"math"
	"math/rand"
	"regexp"
	"slices"
	"strconv"
	"strings"
	"testing"

	"thunkmill/api"
	"thunkmill/lex"
	"thunkmill/syntax"
	"thunkmill/testkit"
)

// reference tells which nodes may be, and their texts, by another road than the program: kids as words of one letter a kind, held to regular expressions, and texts as strings put together by Go's own means.
type reference struct {
	kids  map[int]*regexp.Regexp
	names map[int]*regexp.Regexp
	nums  map[int]int64 // the greatest one; of those that are not named 0
}

const letters = "ABCDEFGHIJKLMNOPQRSTUVWXYZabcdefghijklmnopqrstuvwxyz"

func lettersOf(kinds []int) string {
	s := "["
	for _, k := range kinds {
		s += letters[k-1 : k]
	}
	return s + "]"
}

func newReference() reference {
	D, E, S, P := lettersOf(testkit.Declarations()), lettersOf(testkit.Expressions()), lettersOf(testkit.Statements()), lettersOf(testkit.Patterns())
	k := func(kind int) string { return letters[kind-1 : kind] }
	kids := []string{
		D + "*", k(api.NdConDef) + "+", "", k(api.NdOp) + "+", "", P + "+" + k(api.NdRhs), P + k(api.NdRhs), "(" + k(api.NdGuard) + "+|" + E + ")" + k(api.NdWhere) + "?", E + E, D + "*",
		"", "", "", "", "", E + E + "+", E + "(" + k(api.NdOp) + E + ")+", E, P + "+" + E, k(api.NdWhere) + E, E + E + E, E + k(api.NdAlt) + "+", P + k(api.NdRhs), S + "*" + k(api.NdStmt), E + "{2,4}", E + "*", E + S + "+", E, E, E,
		P + E, k(api.NdWhere), E, "", "", "", "", "", P + "*", P + "{2,4}", P + "*", P, P, P + "(" + k(api.NdOp) + P + ")+",
	}
	r := reference{kids: map[int]*regexp.Regexp{}, names: map[int]*regexp.Regexp{}}
	for i, s := range kids {
		r.kids[i+1] = regexp.MustCompile("^(?:" + s + ")$")
		r.names[i+1] = regexp.MustCompile(`^$`)
	}
	const name, con, oper, conOper = `[a-z_][a-zA-Z0-9_']*`, `[A-Z][a-zA-Z0-9_']*`, `[!#$%&*+./<=>?@\\^|\-~][!#$%&*+./<=>?@\\^|\-~:]*`, `:[!#$%&*+./<=>?@\\^|\-~:]*`
	for s, kinds := range map[string][]int{
		con:          {api.NdData, api.NdConDef},
		"infix[lr]?": {api.NdFixity},
		name + "|" + con + "|" + oper + "|" + conOper: {api.NdOp, api.NdLeft, api.NdRight},
		name + "|" + oper:   {api.NdEqn, api.NdVar},
		con + "|" + conOper: {api.NdCon, api.NdPCon},
		`(?s:.*)`:           {api.NdString, api.NdPString},
		name:                {api.NdPVar, api.NdPAs},
	} {
		for _, k := range kinds {
			r.names[k] = regexp.MustCompile("^(?:" + s + `)$`)
		}
	}
	r.nums = map[int]int64{api.NdConDef: 32, api.NdFixity: 9, api.NdChar: 255, api.NdPChar: 255, api.NdInt: math.MaxInt64, api.NdPInt: math.MaxInt64}
	return r
}

func (r reference) mayBe(n api.Node) bool {
	if n.Kind < 1 || n.Kind > 44 {
		return false
	}
	word := ""
	for _, k := range n.Kids {
		if !r.mayBe(k) {
			return false
		}
		word += letters[k.Kind-1 : k.Kind]
	}
	text := n.Kind == api.NdString || n.Kind == api.NdPString
	reserved := strings.Fields(`case data do else if in let of then where _ infix infixl infixr .. = \ | <- -> @ ~ -- ---`)
	switch {
	case !r.kids[n.Kind].MatchString(word), !r.names[n.Kind].MatchString(n.Name):
		return false
	case !text && n.Kind != api.NdFixity && slices.Contains(reserved, n.Name):
		return false
	case n.Kind == api.NdPCon && n.Name[0] == ':' && len(n.Kids) != 2:
		return false
	}
	return 0 <= n.Num && n.Num <= r.nums[n.Kind]
}

// name is how a name stands where a name is asked for.
func (r reference) name(s string) string {
	if lex.Symbol(s[0]) {
		return "( " + s + " )"
	}
	return s
}

// operator is how it stands where an operator is.
func (r reference) operator(s string) string {
	if lex.Symbol(s[0]) {
		return s
	}
	return "` " + s + " `"
}

func (r reference) atom(n api.Node) string {
	if atomic(n) || n.Kind == api.NdOp {
		return r.text(n)
	}
	return "( " + r.text(n) + " )"
}

// all tells nodes one by one, joined.
func all(l []api.Node, f func(n api.Node) string, between string) string {
	texts := make([]string, len(l))
	for i, n := range l {
		texts[i] = f(n)
	}
	return strings.Join(texts, between)
}

func (r reference) block(l []api.Node) string {
	return "{ " + all(l, func(n api.Node) string { return r.text(n) + " ; " }, "") + "}"
}

// text fills its kind's form, whose words of one letter, digit or sign stand for what fill says.
func (r reference) text(n api.Node) string {
	form := []string{
		"B", "data N = Q", "N A", "W # L", "O", "N $ !", "0 1", "R", "| 0 = 1", "B",
		"N", "N", "#", "'", "\"", "*", "*", "- a", `\ $ -> !`, "let 0 in 1", "if 0 then 1 else 2", "case 0 of C", "0 S", "do B", "( L )", "[ L ]", "[ 0 | M ]", "( a O )", "( O a )", "( 0 )",
		"0 <- 1", "let 0", "0", "N", "_", "#", "'", "\"", "N *", "( L )", "[ L ]", "N @ a", "~ a", "*",
	}[n.Kind-1]
	words := strings.Fields(form)
	for i, w := range words {
		words[i] = r.fill(w, n)
	}
	return strings.Join(slices.DeleteFunc(words, func(s string) bool { return s == "" }), " ")
}

func (r reference) right(n api.Node, sign string) string {
	var l []string
	for _, k := range n.Kids {
		switch k.Kind {
		case api.NdGuard:
			l = append(l, "| "+r.text(k.Kids[0])+" "+sign+" "+r.text(k.Kids[1]))
		case api.NdWhere:
			l = append(l, "where "+r.text(k))
		default:
			l = append(l, sign+" "+r.text(k))
		}
	}
	return strings.Join(l, " ")
}

func (r reference) fill(w string, n api.Node) string {
	last := len(n.Kids) - 1
	switch w {
	case "0", "1", "2":
		return r.text(n.Kids[w[0]-'0'])
	case "a":
		return r.atom(n.Kids[0])
	case "*":
		return all(n.Kids, r.atom, " ")
	case "$":
		return all(n.Kids[:last], r.atom, " ")
	case "!":
		return r.text(n.Kids[last])
	case "N":
		return r.name(n.Name)
	case "W":
		return n.Name
	case "O":
		return r.operator(n.Name)
	case "#":
		return strconv.FormatInt(n.Num, 10)
	case "'":
		return lex.Text(api.Token{Kind: api.TokChar, Num: n.Num})
	case "\"":
		return lex.Text(api.Token{Kind: api.TokString, Text: n.Name})
	case "A":
		return strings.TrimSpace(strings.Repeat("a ", int(n.Num)))
	case "B":
		return r.block(n.Kids)
	case "C":
		return r.block(n.Kids[1:])
	case "L":
		return all(n.Kids, r.text, " , ")
	case "M":
		return all(n.Kids[1:], r.text, " , ")
	case "Q":
		return all(n.Kids, r.text, " | ")
	case "R":
		return r.right(n, "=")
	case "S":
		return r.right(n.Kids[1], "->")
	}
	return w
}

// maker makes trees by chance, the same ones each time, and spoils them.
type maker struct {
	*rand.Rand
	testkit.Trees
}

func newMaker(seed int64) maker {
	r := rand.New(rand.NewSource(seed))
	return maker{r, testkit.Trees{Chance: r}}
}

// spoil changes something of one node of a tree.
func (m maker) spoil(n *api.Node) {
	count := 0
	testkit.Each(n, func(*api.Node) { count++ })
	which := m.Intn(count)
	at := 0
	testkit.Each(n, func(n *api.Node) {
		if at == which {
			m.spoilOne(n)
		}
		at++
	})
}

func (m maker) spoilOne(n *api.Node) {
	switch i := len(n.Kids); m.Intn(6) {
	case 0:
		n.Kind = m.Intn(48) - 1
	case 1:
		n.Name = m.Pick("", "x", "C", "+", ":", "let", "=", "_", "--", "x y", "infixl", "(", "..", "infix")
	case 2:
		n.Num = []int64{math.MinInt64, -1, 0, 1, 9, 10, 32, 33, 255, 256}[m.Intn(10)]
	case 3:
		if i > 0 {
			i = m.Intn(i)
			n.Kids = slices.Delete(slices.Clone(n.Kids), i, i+1)
		}
	case 4:
		n.Kids = slices.Insert(slices.Clone(n.Kids), m.Intn(i+1), m.Tree(1+m.Intn(44), 1))
	case 5:
		if i > 1 {
			a, b := m.Intn(i), m.Intn(i)
			n.Kids = slices.Clone(n.Kids)
			n.Kids[a], n.Kids[b] = n.Kids[b], n.Kids[a]
		}
	}
}

func size(n api.Node) (nodes, deep int) {
	nodes, deep = 1, 0
	for _, k := range n.Kids {
		m, d := size(k)
		nodes, deep = nodes+m, max(deep, d)
	}
	return nodes, deep + 1
}

func TestAsTheReference(t *testing.T) {
	r, m := newReference(), newMaker(4)
	good, wrong := map[int]int{}, 0
	for range 60000 {
		n := m.Tree(1+m.Intn(44), 1+m.Intn(5))
		if m.Intn(2) == 0 {
			for range 1 + m.Intn(2) {
				m.spoil(&n)
			}
		}
		want := api.OK
		if !r.mayBe(n) {
			want = api.ErrArg
			wrong++
		}
		if got := syntax.Check(n); got != want {
			t.Fatalf("Check(%+v) = %v, want %v", n, got, want)
		}
		text, e := syntax.Text(n)
		l, e2 := syntax.Lexemes(n)
		if e != want || e2 != want || lex.Join(l) != text {
			t.Fatalf("Text = %q, %v, Lexemes = %v, %v, want %v", text, e, l, e2, want)
		}
		if want != api.OK {
			continue
		}
		good[n.Kind]++
		testkit.Each(&n, func(n *api.Node) { n.At = 0 })
		if text != r.text(n) {
			t.Fatalf("Text(%+v) = %q, want %q", n, text, r.text(n))
		}
		checkRead(t, text, l)
	}
	for k := 1; k <= 44; k++ {
		if good[k] < 100 {
			t.Errorf("only %d nodes of kind %d may be", good[k], k)
		}
	}
	if wrong < 10000 {
		t.Errorf("only %d nodes may not be", wrong)
	}
}

// checkRead holds lexemes to what lex reads from their text, unless that is too long.
func checkRead(t *testing.T, text string, l []api.Token) {
	t.Helper()
	read, f := lex.All(text)
	if f.Err == api.ErrLong {
		return
	}
	same := f == (api.Fault{}) && len(read) == len(l)
	for i := 0; same && i < len(l); i++ {
		same = l[i] == api.Token{Kind: read[i].Kind, Text: read[i].Text, Num: read[i].Num}
	}
	if !same {
		t.Fatalf("%q: lexemes %v, read %v, %v", text, l, read, f)
	}
}

// All nodes with few kids of all kinds, and with more of the kinds that kids are told apart by.
func TestAllShortListsOfKids(t *testing.T) {
	r := newReference()
	var few []api.Node
	for k := 1; k <= 44; k++ {
		few = append(few, ofKind(k))
	}
	few = append(few, of(0))
	main := []api.Node{v("x"), pv("x"), op("+"), rhs(num(1)), guard(v("x"), v("y")), where(), alt(pv("x"), v("x")), gen(pv("x"), v("y")), stmt(v("x")), conDef("C", 0), bind("x", num(1))}
	for k := 1; k <= 44; k++ {
		for _, l := range slices.Concat(lists(few, 2), lists(main, 3)) {
			n := ofKind(k)
			n.Kids = l
			want := api.OK
			if !r.mayBe(n) {
				want = api.ErrArg
			}
			if got := syntax.Check(n); got != want {
				t.Errorf("kind %d, kids %v: Check = %v, want %v", k, l, got, want)
			}
		}
	}
}

// lists are all lists of at most n of some nodes.
func lists(of []api.Node, n int) [][]api.Node {
	all, last := [][]api.Node{nil}, [][]api.Node{nil}
	for range n {
		var next [][]api.Node
		for _, l := range last {
			for _, x := range of {
				next = append(next, append(slices.Clone(l), x))
			}
		}
		all, last = append(all, next...), next
	}
	return all
}

// What follows from P4.1 for trees of all kinds, those that may not be too.
func TestSameStripAndNamesOfMadeTrees(t *testing.T) {
	m := newMaker(5)
	for range 20000 {
		n := m.Tree(1+m.Intn(44), 1+m.Intn(4))
		if m.Intn(2) == 0 {
			m.spoil(&n)
		}
		before := testkit.Copied(n)
		s := syntax.Strip(n)
		if !syntax.Same(n, before) || !syntax.Same(s, syntax.Strip(s)) || !slices.Equal(syntax.Names(n), syntax.Names(s)) {
			t.Fatalf("Strip(%+v) = %+v", n, s)
		}
		parens := 0
		testkit.Each(&n, func(n *api.Node) {
			if n.Kind == api.NdParen {
				parens++
			}
		})
		nodes, _ := size(n)
		left, _ := size(s)
		if n.Kind != api.NdParen && left != nodes-parens {
			t.Fatalf("Strip(%+v) has %d nodes, want %d", n, left, nodes-parens)
		}
		if syntax.Check(n) == api.OK && (left != nodes-parens || syntax.Check(s) != api.OK) {
			t.Fatalf("Strip(%+v) = %+v", n, s)
		}
	}
}
