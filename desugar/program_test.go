package desugar_test

import (
	"slices"
	"testing"

	"thunkmill/api"
	"thunkmill/core"
	"thunkmill/desugar"
	"thunkmill/shape"
	"thunkmill/testkit"
)

// P13.2: a program's bindings, by rising name, whatever they lean on.
func TestPrograms(t *testing.T) {
	checkProgram(t, "main = 1", "main", "1")
	checkProgram(t, "main = f 1\nf x = x", "f", `(\ a -> (let no = failure in (let x = a in x)))`, "main", "(f 1)")
	checkProgram(t, "main = main", "main", "main")
	checkProgram(t, "main x = 1", "main", `(\ a -> (let no = failure in (let x = a in 1)))`)
	checkProgram(t, "f 1 = main\nf x | x = 2\nmain = z\nz = f\nb = z", "b", "z", "f", `(\ a -> (let no = (let no = failure in (let x = a in (case x of True -> 2; False -> no))) in (case a of 1 -> main; _ -> no)))`, "main", "z", "z", "f")
	checkProgram(t, "x + y = x\nmain | b = 1 + 2 where b = True\na' = 1\na = 2\nb = 3\nz_ = 4", "+", `(\ a b -> (let no = failure in (let x = a in (let y = b in x))))`, "a", "2", "a'", "1", "b", "3", "main", "(let b = (True) in (case b of True -> (+ 1 2); False -> failure))", "z_", "4")
	checkProgram(t, "infixl 6 +\nx + y = add x y\nmain = 1 + 2 + 3", "+", `(\ a b -> (let no = failure in (let x = a in (let y = b in (#add x y)))))`, "main", "(+ (+ 1 2) 3)")
}

// P13.2: what a program defines hides a primitive everywhere in it.
func TestProgramsHide(t *testing.T) {
	checkProgram(t, "main = add 1 2\nadd = ord", "add", `(\ a -> (#ord a))`, "main", "(add 1 2)")
	checkProgram(t, "main = (ord, eof)\n(ord, _) = getc", "%1", "(#getc)", "main", "(Tup2 ord (#eof))", "ord", "(case %1 of Tup2 a b -> (let o = a in o); _ -> failure)")
	checkProgram(t, "main = - 1\nsub x y = x", "main", "(#sub 0 1)", "sub", `(\ a b -> (let no = failure in (let x = a in (let y = b in x))))`)
}

// P13.2: what a pattern takes apart is named by which of them it is, those of names not counted.
func TestProgramPatterns(t *testing.T) {
	checkProgram(t, "_ = 1\nmain = 2", "%1", "1", "main", "2")
	checkProgram(t, "(main, x) = f\nf = (1, x)", "%1", "f", "f", "(Tup2 1 x)", "main", "(case %1 of Tup2 a b -> (let m = a in (let x = b in m)); _ -> failure)", "x", "(case %1 of Tup2 a b -> (let m = a in (let x = b in x)); _ -> failure)")
	checkProgram(t, "z = 1\n1 = z\nmain = 2\n~_ | main = 3\nf 1 = 2\n[] = 4", "%1", "z", "%2", "(case main of True -> 3; False -> failure)", "%3", "4", "f", `(\ a -> (let no = failure in (case a of 1 -> 2; _ -> no)))`, "main", "2", "z", "1")
	checkProgram(t, "main = 1 where (x, y) = 2", "main", "(let v = 2 in (let x = (case v of Tup2 a b -> (let p = a in (let q = b in p)); _ -> failure) in (let y = (case v of Tup2 a b -> (let p = a in (let q = b in q)); _ -> failure) in 1)))")
	checkProgram(t, "x $ y = 1\nx # y = 2\nx % y = 3\nx & y = 4\n_ = 5\nmain = 6", "#", two("2"), "$", two("1"), "%", two("3"), "%1", "5", "&", two("4"), "main", "6")
}

// two is a function of two names.
func two(body string) string {
	return `(\ a b -> (let no = failure in (let x = a in (let y = b in ` + body + `))))`
}

// P13.2: %10 stands ahead of %2: names rise as texts do.
func TestManyProgramPatterns(t *testing.T) {
	decls := append(many(11, node(api.NdBind, anything(), node(api.NdRhs, one()))), is("main", one()))
	for i := range 11 {
		decls[i].Kids = slices.Clone(decls[i].Kids)
		decls[i].Kids[1] = node(api.NdRhs, api.Node{Kind: api.NdInt, Num: int64(i + 1)})
	}
	p, f := desugar.Program(node(api.NdProgram, decls...))
	var names []string
	for _, b := range p.Binds {
		names = append(names, b.Name)
		if n := b.Name[1:]; b.Name != "main" && core.Text(b.E) != n {
			t.Errorf("%s is %s", b.Name, core.Text(b.E))
		}
	}
	want := []string{"%1", "%10", "%11", "%2", "%3", "%4", "%5", "%6", "%7", "%8", "%9", "main"}
	if f != (api.Fault{}) || !slices.Equal(names, want) {
		t.Errorf("%v, %v", names, f)
	}
}

// P13.2: constructors of a program's own.
func TestProgramConstructors(t *testing.T) {
	text := "data T = P x y | Q\ndata A = R x\nmain = P Q (R 1)\nf (P x _) = P\nf Q = R"
	checkProgram(t, text, "f", `(\ a -> (let no = (let no = failure in (case a of Q -> (\ u -> (R u)); _ -> no)) in (case a of P b c -> (let x = b in (\ u v -> (P u v))); _ -> no)))`, "main", "(P (Q) (R 1))")
	p, _ := desugar.Program(program(t, text))
	of, _ := shape.Cons(program(t, text))
	if !slices.Equal(p.Cons, of) || len(of) != 11 {
		t.Errorf("constructors: %v", p.Cons)
	}
	checkProgram(t, "data L = L a a a a a a a a a a a a a a a a a a a a a a a a a a a a a a a a\nmain = L", "main", `(\ `+letters()+` -> (L `+letters()+`))`)
}

// letters are 32 names.
func letters() string {
	text := ""
	for _, name := range numbered("a", 32) {
		text += " " + name
	}
	return text[1:]
}

// P13.3: the declarations of both, the first one's place, all places as they are.
func TestJoin(t *testing.T) {
	a, b := testkit.Placed(program(t, "infixl 3 +\nmain = f 1\ndata T = A | B x")), testkit.Placed(program(t, "f x = x\nf (B y) = y\n(z, _) | f = 1 where g = 2"))
	a.At = 77
	empty := api.Node{Kind: api.NdProgram, At: 5}
	for _, x := range []struct {
		a, b api.Node
	}{{a, b}, {b, a}, {a, a}, {a, empty}, {empty, b}, {empty, empty}} {
		want := api.Node{Kind: api.NdProgram, At: x.a.At, Kids: slices.Concat(x.a.Kids, x.b.Kids)}
		got, e := desugar.Join(x.a, x.b)
		if e != api.OK || !sameNodes(got, want) {
			t.Errorf("%s and %s: %v, %v", textOf(x.a), textOf(x.b), got, e)
		}
	}
}

// sameNodes tells whether nodes are the same, places too.
func sameNodes(a, b api.Node) bool {
	return a.Kind == b.Kind && a.Name == b.Name && a.Num == b.Num && a.At == b.At && slices.EqualFunc(a.Kids, b.Kids, sameNodes)
}

// P13.3: what Join refuses: the first one's error, then the second one's, then another kind.
func TestJoinErrors(t *testing.T) {
	fine, wrong, deep := program(t, "main = 1"), api.Node{Kind: api.NdProgram, Num: 3}, node(api.NdProgram, is("x", inBrackets(one(), api.MaxDeep)))
	for _, x := range []struct {
		a, b api.Node
		want api.Errno
	}{
		{wrong, fine, api.ErrArg}, {fine, wrong, api.ErrArg}, {deep, fine, api.ErrLong}, {fine, deep, api.ErrLong}, {wrong, deep, api.ErrArg}, {deep, wrong, api.ErrLong},
		{one(), fine, api.ErrArg}, {fine, one(), api.ErrArg}, {one(), one(), api.ErrArg}, {one(), deep, api.ErrLong}, {deep, one(), api.ErrLong}, {api.Node{}, fine, api.ErrArg}, {fine, fine.Kids[0], api.ErrArg}, {node(api.NdWhere), fine, api.ErrArg},
	} {
		got, e := desugar.Join(x.a, x.b)
		if e != x.want || !sameNodes(got, api.Node{}) {
			t.Errorf("%v and %v: %v, %v, want %v", x.a, x.b, got, e, x.want)
		}
	}
}

// inBrackets is an expression in so many brackets.
func inBrackets(n api.Node, times int) api.Node {
	for range times {
		n = node(api.NdParen, n)
	}
	return n
}

// P13.3: programs that are joined: what one defines the other may use.
func TestJoinedPrograms(t *testing.T) {
	a, b := program(t, "main = f (P 1)"), program(t, "data T = P x\nf (P x) = x")
	joined, e := desugar.Join(a, b)
	p, f := desugar.Program(joined)
	whole, g := desugar.Program(program(t, "main = f (P 1)\ndata T = P x\nf (P x) = x"))
	if e != api.OK || f != (api.Fault{}) || g != (api.Fault{}) || !core.SameProg(p, whole) {
		t.Errorf("%v, %v, %v: %s", e, f, g, core.ProgText(p))
	}
}
