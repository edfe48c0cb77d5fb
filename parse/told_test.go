package parse_test

import (
	"strconv"
	"strings"
	"testing"

	"thunkmill/api"
	"thunkmill/parse"
)

// kindNames are those of the kinds of nodes, without the Nd that they begin with.
var kindNames = strings.Fields(`? Program Data ConDef Fixity Op Eqn Bind Rhs Guard Where
	Var Con Int Char String App Ops Neg Lam Let If Case Alt Do Tuple List Comp Left Right Paren
	Gen Lets Stmt PVar PAny PInt PChar PString PCon PTuple PList PAs PLazy POps`)

// told is a tree in a line: kinds, names or numbers behind a colon, kids in parentheses.
func told(n api.Node) string { return toldWith(n, func(api.Node) string { return "" }) }

// placed is what told tells, with the place of each node behind an @.
func placed(n api.Node) string {
	return toldWith(n, func(n api.Node) string { return "@" + strconv.Itoa(n.At) })
}

func toldWith(n api.Node, behind func(n api.Node) string) string {
	kids := make([]string, len(n.Kids))
	for i, k := range n.Kids {
		kids[i] = toldWith(k, behind)
	}
	s := kindNames[n.Kind]
	switch n.Kind {
	case api.NdInt, api.NdChar, api.NdPInt, api.NdPChar:
		s += ":" + strconv.FormatInt(n.Num, 10)
	case api.NdConDef, api.NdFixity:
		s += ":" + n.Name + ":" + strconv.FormatInt(n.Num, 10)
	case api.NdString, api.NdPString:
		s += ":" + strconv.Quote(n.Name)
	default:
		if n.Name != "" {
			s += ":" + n.Name
		}
	}
	s += behind(n)
	if len(kids) > 0 {
		s += "(" + strings.Join(kids, ", ") + ")"
	}
	return s
}

// around is a text with a part in its middle, and how the part is found in the tree of the whole.
type around struct {
	ahead, behind string
	path          []int
}

var (
	wholeProgram = around{}
	oneDecl      = around{path: []int{0}}
	rightSide    = around{"x = ", "", []int{0, 1, 0}}
	alternative  = around{"x = case y of { ", " -> z }", []int{0, 1, 0, 1, 0}}
	statement    = around{"x = do { ", " ; z }", []int{0, 1, 0, 0}}
	qualifier    = around{"x = [ y | ", " ]", []int{0, 1, 0, 1}}
	generator    = around{"x = [ y | ", " <- z ]", []int{0, 1, 0, 1, 0}}
)

func (a around) within(n api.Node) api.Node {
	for _, i := range a.path {
		n = n.Kids[i]
	}
	return n
}

// wantTold reads texts within another one by Raw.
func wantTold(t *testing.T, a around, want map[string]string) {
	t.Helper()
	for text, tree := range want {
		s := a.ahead + text + a.behind
		n, f := parse.Raw(s)
		if f != (api.Fault{}) {
			t.Errorf("Raw of %q: %v", s, f)
			continue
		}
		if got := told(a.within(n)); got != tree {
			t.Errorf("Raw of %q:\ngot  %s\nwant %s", s, got, tree)
		}
	}
}

// faulty parts a text from the mark § in it, which tells the place of a fault.
func faulty(marked string) (text string, at int) {
	at = strings.Index(marked, "§")
	if at < 0 {
		panic("no mark in " + marked)
	}
	return strings.Replace(marked, "§", "", 1), at
}

// reader is one of the functions of the package.
type reader func(s string) (api.Node, api.Fault)

// wantFaults reads texts that are marked at the place of their fault.
func wantFaults(t *testing.T, read reader, e api.Errno, marked ...string) {
	t.Helper()
	for _, m := range marked {
		text, at := faulty(m)
		n, f := read(text)
		if f != (api.Fault{Err: e, At: at}) {
			t.Errorf("%q: got %v, want error %d at %d", text, f, e, at)
		}
		if n.Kind != 0 || n.Name != "" || n.Num != 0 || n.At != 0 || len(n.Kids) > 0 {
			t.Errorf("%q: with a fault comes a node: %s", text, told(n))
		}
	}
}

// wantPlaced reads a text by Raw, with places.
func wantPlaced(t *testing.T, text, want string) {
	t.Helper()
	n, f := parse.Raw(text)
	if got := placed(n); got != want || f != (api.Fault{}) {
		t.Errorf("Raw of %q: %v\ngot  %s\nwant %s", text, f, got, want)
	}
}

// lines parts a table into its rows, one a line, without those that are empty or begin with --. A ¶ in a row is a line's end.
func lines(table string) []string {
	var l []string
	for _, s := range strings.Split(table, "\n") {
		if s != "" && !strings.HasPrefix(s, "--") {
			l = append(l, strings.ReplaceAll(s, "¶", "\n"))
		}
	}
	return l
}
