package shape_test

import (
	"math"
	"math/rand"
	"slices"
	"strconv"
	"strings"
	"testing"

	"thunkmill/api"
	"thunkmill/core"
	"thunkmill/shape"
	"thunkmill/syntax"
	"thunkmill/testkit"
)

// P9.1: the built-in ones, those of core among them as core tells them.
func TestBuiltin(t *testing.T) {
	got := shape.Builtin()
	if !slices.Equal(got, builtin()) {
		t.Errorf("Builtin = %v, want %v", got, builtin())
	}
	for _, c := range core.Builtin() {
		if !slices.Contains(got, c) {
			t.Errorf("Builtin has no %v", c)
		}
	}
	checkCons(t, "no declaration", program(), shape.Builtin())
}

// P9.1: the constructors of ordinary programs, and of those at the edges.
func TestCons(t *testing.T) {
	names := strings.Repeat(" x", 32)
	for _, r := range []struct{ text, want string }{
		{"", ""},
		{"f x = x", ""},
		{"infixl 3 +", ""},
		{"data T = A", "T=A/0"},
		{"data T = A x y | B", "T=A/2,B/0"},
		{"data T = A x", "T=A/1"},
		{"data T = A | B x | C x y | D x y z | E x x x x x x", "T=A/0,B/1,C/2,D/3,E/6"},
		{"data T = A" + names, "T=A/32"},
		{"data T = B | A" + names + " | C" + names, "T=B/0,A/32,C/32"},
		{"data Maybe = Nothing | Just x\ndata Either = Left x | Right y\ndata Ordering = LT | EQ | GT", "Maybe=Nothing/0,Just/1 Either=Left/1,Right/1 Ordering=LT/0,EQ/0,GT/0"},
		{"f x = x\ndata T = A\ng = A\ninfixr 2 %\ndata U = B\nh = B", "T=A/0 U=B/0"},

		// By rising Type, whatever the order; within one by Tag, whatever the names.
		{"data Z = A\ndata A = Z", "Z=A/0 A=Z/0"},
		{"data T = C | A x | B", "T=C/0,A/1,B/0"},
		{"data Z = Z2 | Z1\ndata M = M2 | M1\ndata A = A2 | A1", "A=A2/0,A1/0 M=M2/0,M1/0 Z=Z2/0,Z1/0"},

		// Types ahead of the built-in ones, between them, and behind.
		{"data Zoe = A\ndata Ape = B\ndata Boo = C\ndata Bool' = D\ndata Boola = E\ndata BOOL = F", "Ape=B/0 BOOL=F/0 Boo=C/0 Bool'=D/0 Boola=E/0 Zoe=A/0"},
		{"data Unit_ = A\ndata Uni = B\ndata Unit2 = C\ndata V = D", "Uni=B/0 Unit2=C/0 Unit_=A/0 V=D/0"},
		{"data Tup = A\ndata Tup1 = B\ndata Tup20 = C\ndata Tup5 = D\ndata Tup2' = E\ndata Tup22 = F x", "Tup=A/0 Tup1=B/0 Tup2'=E/0 Tup20=C/0 Tup22=F/1 Tup5=D/0"},
		{"data Lis = A\ndata List0 = B\ndata Lisu = C\ndata T10 = D\ndata T9 = E", "Lis=A/0 List0=B/0 Lisu=C/0 T10=D/0 T9=E/0"},

		// Types and constructors are no names of one sort.
		{"data T = T", "T=T/0"},
		{"data T = U | T x\ndata U = V", "T=U/0,T/1 U=V/0"},
		{"data A = B\ndata B = A", "A=B/0 B=A/0"},
		{"data T = Bool | List x y", "T=Bool/0,List/2"},
		{"data False = A\ndata Cons = B x\ndata Nil = C", "False=A/0 Cons=B/1 Nil=C/0"},

		// Names that are like others.
		{"data T = True' | TRUE | Tru | Tup1 | Tup5 x | Unit0 | Nil_", "T=True'/0,TRUE/0,Tru/0,Tup1/0,Tup5/1,Unit0/0,Nil_/0"},
		{"data T = A\ndata T' = A'\ndata T'' = A''", "T=A/0 T'=A'/0 T''=A''/0"},
	} {
		checkCons(t, r.text, parsed(t, r.text), with(r.want))
		checkFault(t, r.text, parsed(t, r.text), api.Fault{})
	}
}

// P9.1: the chapter's first example, written out.
func TestExampleOfCons(t *testing.T) {
	a, b := api.Con{Name: "A", Arity: 2, Type: "T", Tag: 0}, api.Con{Name: "B", Arity: 0, Type: "T", Tag: 1}
	checkCons(t, "the example", parsed(t, "data T = A x y | B"), slices.Insert(builtin(), 4, a, b))
}

// P9.1: in whatever order some NdData stand, the same list comes.
func TestConsOfEachOrder(t *testing.T) {
	l := []api.Node{data(10, "Zoe", "Z", "Y"), data(20, "Ape", "X", "A"), data(30, "Boolean", "W"), data(40, "Tup", "V", "U", "T"), bind(variable("x"), variable("x"))}
	l[4].Kids[0].Kind = api.NdPVar
	orders := 0
	var each func(from int)
	each = func(from int) {
		if from == len(l) {
			orders++
			checkCons(t, "an order", program(l...), with("Zoe=Z/0,Y/1 Ape=X/0,A/1 Boolean=W/0 Tup=V/0,U/1,T/2"))
		}
		for i := from; i < len(l); i++ {
			l[from], l[i] = l[i], l[from]
			each(from + 1)
			l[from], l[i] = l[i], l[from]
		}
	}
	each(0)
	if orders != 120 {
		t.Errorf("%d orders", orders)
	}
}

// P9.1: an NdData in an inner block is no declaration of the program.
func TestConsOfInnerData(t *testing.T) {
	for _, text := range []string{"f = 1 where { data T = A }", "f = let { data T = A ; data T = A | A | True } in 1", "f = [ 1 | let { data Bool = True } ]"} {
		checkCons(t, text, parsed(t, text), builtin())
		checkFault(t, text, parsed(t, text), api.Fault{})
	}
	text := "data T = A x\nf = 1 where { data T = A | B }"
	checkCons(t, text, parsed(t, text), with("T=A/1"))
}

// P9.1: what is there twice, at the place of the first that is, in the document's order.
func TestConsOfWhatIsThereTwice(t *testing.T) {
	texts := []string{
		"data T = A\n»data T = B", "data T = A\ndata U = B\n»data T = C", "data T = A\nf x = x\n»data T = B\ndata T = C",
		"data T = A | »A", "data T = A | B | »A | B", "data T = A x | »A", "data T = A | B | C | »C x y",
		"data T = A\ndata U = »A", "data T = A | B\ndata U = C | »B", "data T = A\ndata U = B\ndata V = »A x",
		// The chapter's examples.
		"data T = A; data U = »A", "»data Bool = X",
		// A type's fault ahead of its constructors', those of an earlier data ahead of it.
		"data T = A\n»data T = A", "data T = A\n»data T = A | A | True", "»data Bool = True", "data T = A | »A\ndata T = B", "data T = A | »True\ndata Bool = B",
		"data T = A\ndata U = »A\ndata T = B", "data T = A\n»data T = B\ndata U = A", "data T = »True | A | A", "data T = A | »A | True",
		"data T = A\ndata U = B | »A | B\ndata U = C", "data T = A\n»data Bool = B\ndata T = C", "data T = A\n»data T = B\ndata Bool = C",
		// Types are no constructors: only the second name of one sort is there twice.
		"data T = T | »T", "data T = Bool | »True", "data A = B\ndata B = A\ndata C = »B",
		// It stands ahead of what Check looks for.
		"f (Zoe) = Zow\ndata T = A | »A", "f (True x) = 1\n»data Unit = A",
	}
	for _, of := range []string{"Bool", "List", "Unit", "Tup2", "Tup3", "Tup4"} {
		texts = append(texts, "»data "+of+" = A", "data T = B\n»data "+of+" = A | B")
	}
	for _, c := range builtin() {
		texts = append(texts, "data T = »"+c.Name, "data T = A | »"+c.Name+" x y | B", "data T = A\ndata U = B x | »"+c.Name+strings.Repeat(" x", c.Arity))
	}
	for _, marked := range texts {
		text, at := unmarked(t, marked)
		checkConsFault(t, text, parsed(t, text), api.Fault{Err: api.ErrScope, At: at})
	}
}

// P9.1: a fault's place is that of the node, whatever it is.
func TestPlacesOfConsFaults(t *testing.T) {
	for _, at := range []int{0, 1, -1, math.MinInt, math.MaxInt - 9, 65536} {
		checkConsFault(t, "a type", program(data(50, "T", "A"), data(at, "T", "B")), api.Fault{Err: api.ErrScope, At: at})
		checkConsFault(t, "a constructor", program(data(50, "T", "A"), data(at, "U", "B", "C", "A")), api.Fault{Err: api.ErrScope, At: at + 3})
	}
}

// wrongPrograms are programs that syntax refuses with ErrArg.
func wrongPrograms() []api.Node {
	twice := data(5, "Bool", "A", "A")
	l := []api.Node{
		{}, {Kind: -1, At: 4}, {Kind: 45}, {Kind: math.MaxInt}, {Kind: api.NdProgram, Name: "p"}, {Kind: api.NdProgram, Num: 1},
		program(variable("x")), program(program()), program(twice, variable("x")), program(data(5, "T")), program(twice, data(5, "T")),
		program(api.Node{Kind: api.NdConDef, Name: "A"}), program(twice, bind(variable("x"), variable("x"))),
	}
	for _, name := range []string{"", "t", "_T", ":", ":+", "+", "T ", "case", "1", "T\x00", "»"} {
		l = append(l, program(data(5, name, "A")), program(data(5, "T", name)), program(twice, data(5, "T", "A", name)))
	}
	for _, num := range []int64{-1, 33, math.MaxInt64, math.MinInt64, 1 << 32} {
		d := data(5, "T", "A")
		d.Kids[0].Num = num
		l = append(l, program(d), program(twice, d))
	}
	inner := data(5, "T", "A")
	inner.Kids[0].Kids = []api.Node{variable("x")}
	colon := api.Node{Kind: api.NdPCon, Name: ":", Kids: []api.Node{{Kind: api.NdPAny}}}
	return append(l, program(inner), program(twice, bind(colon, variable("x"))))
}

// P9.1, P9.3: syntax's error at 0, ahead of all else.
func TestWhatSyntaxRefuses(t *testing.T) {
	for i, n := range wrongPrograms() {
		if syntax.Check(n) != api.ErrArg {
			t.Errorf("wrong %d: syntax has no fault", i)
		}
		checkConsFault(t, "wrong "+strconv.Itoa(i), n, api.Fault{Err: api.ErrArg})
	}
	twice, deepest := data(5, "Bool", "A", "A"), bind(lazily(api.Node{Kind: api.NdPAny}, 253), variable("x"))
	tooDeep := bind(lazily(api.Node{Kind: api.NdPCon, Name: "Zoe"}, 254), variable("x"))
	endless := program(twice, bind(api.Node{Kind: api.NdPAny}, variable("x")))
	endless.Kids[1].Kids[0] = api.Node{Kind: api.NdPList, Kids: endless.Kids}
	for i, n := range []api.Node{program(tooDeep), program(twice, tooDeep), program(api.Node{}, tooDeep), lazily(api.Node{}, 256), program(slices.Repeat([]api.Node{twice}, 1<<19)...), endless} {
		if syntax.Check(n) != api.ErrLong {
			t.Errorf("long %d: syntax has no fault", i)
		}
		checkConsFault(t, "long "+strconv.Itoa(i), n, api.Fault{Err: api.ErrLong})
	}
	checkCons(t, "256 deep", program(deepest), builtin())
	checkConsFault(t, "256 deep, twice", program(deepest, twice), api.Fault{Err: api.ErrScope, At: 5})
}

// P9.1: a node of each kind that may be, but is no program.
func TestNoPrograms(t *testing.T) {
	made := testkit.Trees{Chance: rand.New(rand.NewSource(1))}
	for _, kind := range testkit.Span(api.NdData, api.NdPOps) {
		for range 5 {
			n := made.Tree(kind, 3)
			for syntax.Check(n) != api.OK {
				n = made.Tree(kind, 3)
			}
			n.At = 77
			checkConsFault(t, "kind "+strconv.Itoa(kind), n, api.Fault{Err: api.ErrArg})
		}
	}
	block := api.Node{Kind: api.NdWhere, Kids: []api.Node{data(5, "Bool", "A", "A")}, At: 9}
	checkConsFault(t, "a block", block, api.Fault{Err: api.ErrArg})
	checkConsFault(t, "a constructor that is none", api.Node{Kind: api.NdCon, Name: "Zoe", At: 9}, api.Fault{Err: api.ErrArg})
}

// A great many types and constructors, each asked for.
func TestManyConstructors(t *testing.T) {
	const many = 100000
	n, want, all := program(), builtin(), data(5, "Z")
	list := api.Node{Kind: api.NdList}
	for i := range many {
		a, b := "A"+strconv.Itoa(i), "B"+strconv.Itoa(many-i)
		n.Kids = append(n.Kids, data(5, "T"+a, a))
		all.Kids = append(all.Kids, api.Node{Kind: api.NdConDef, Name: b, Num: 3})
		list.Kids = append(list.Kids, api.Node{Kind: api.NdCon, Name: b}, api.Node{Kind: api.NdCon, Name: a})
		want = append(want, api.Con{Name: a, Type: "T" + a}, api.Con{Name: b, Arity: 3, Type: "Z", Tag: i})
	}
	n.Kids = append(n.Kids, all, bind(api.Node{Kind: api.NdPAny}, list))
	if got, f := shape.Cons(n); f != (api.Fault{}) || !slices.Equal(got, inOrder(want)) {
		t.Errorf("many: %d constructors, %v", len(got), f)
	}
	checkFault(t, "many", n, api.Fault{})
	list.Kids[len(list.Kids)-1] = api.Node{Kind: api.NdCon, Name: "B0", At: 8}
	checkFault(t, "many, and one that is none", n, api.Fault{Err: api.ErrScope, At: 8})
}
