package shape_test

import (
	"math/rand"
	"slices"
	"strconv"
	"strings"
	"testing"

	"thunkmill/api"
	"thunkmill/core"
	"thunkmill/shape"
	"thunkmill/syntax"
	"thunkmill/testkit"
)

// maker makes programs by chance, the same ones each time. It spoils one in so many of the names that data define, and of those that are used; 0 says none.
type maker struct {
	testkit.Trees
	chance        *rand.Rand
	defined, used int
}

func newMaker(seed int64) *maker {
	chance := rand.New(rand.NewSource(seed))
	return &maker{Trees: testkit.Trees{Chance: chance}, chance: chance}
}

func (m *maker) oneIn(many int) bool { return many > 0 && m.chance.Intn(many) == 0 }

// types makes some NdData, of names that stand ahead of the built-in ones, between and behind them.
func (m *maker) types() []api.Node {
	names := strings.Fields("Ape Boo Bool' Cat False Lis List' Nil T T' Tup Tup1 Tup22 Tup5 Uni Unit' Zoe")
	m.chance.Shuffle(len(names), func(i, j int) { names[i], names[j] = names[j], names[i] })
	var l []api.Node
	count := 0
	for _, name := range names[:m.chance.Intn(6)] {
		d := data(0, name)
		for range 1 + m.chance.Intn(4) {
			count++
			c := m.Pick("K", "L'", "T", "Zoe", "Bool") + strconv.Itoa(count)
			if m.oneIn(m.defined) {
				c = m.Pick("K1", "T1", "L'2", "Nil", "Cons", "True", "Tup3", "Unit")
			}
			d.Kids = append(d.Kids, api.Node{Kind: api.NdConDef, Name: c, Num: int64(m.chance.Intn(5))})
		}
		if m.oneIn(m.defined) {
			d.Name = m.Pick("T", "Zoe", "Bool", "List", "Tup2", "Unit")
		}
		l = append(l, d)
	}
	return l
}

// program makes one whose constructors are, but for those that are spoilt, there, and stand with their parts.
func (m *maker) program() api.Node {
	datas := m.types()
	there := builtin()
	for _, d := range datas {
		for _, c := range d.Kids {
			there = append(there, api.Con{Name: c.Name, Arity: int(c.Num)})
		}
	}
	n := program(datas...)
	for range 1 + m.chance.Intn(4) {
		n.Kids = append(n.Kids, m.Tree([]int{api.NdEqn, api.NdBind}[m.chance.Intn(2)], 2+m.chance.Intn(4)))
	}
	m.chance.Shuffle(len(n.Kids), func(i, j int) { n.Kids[i], n.Kids[j] = n.Kids[j], n.Kids[i] })
	testkit.Each(&n, func(n *api.Node) { m.name(n, there) })
	return testkit.Placed(n)
}

// name gives a constructor a name that is there. A pattern with as many parts as none has loses them.
func (m *maker) name(n *api.Node, there []api.Con) {
	if n.Kind != api.NdCon && n.Kind != api.NdPCon {
		return
	}
	fits := slices.DeleteFunc(slices.Clone(there), func(c api.Con) bool { return n.Kind == api.NdPCon && c.Arity != len(n.Kids) })
	if len(fits) == 0 {
		n.Kids, fits = nil, builtin()[:3]
	}
	if m.oneIn(m.used) {
		fits = append(slices.Clone(there), api.Con{Name: "None"})
	}
	n.Name = fits[m.chance.Intn(len(fits))].Name
	if n.Name == "Cons" && (n.Kind == api.NdCon || len(n.Kids) == 2) && m.chance.Intn(2) == 0 {
		n.Name = ":"
	}
}

// twice is the first fault of what is there twice, by a list of all that is asked for: types under their names, constructors with an = ahead.
func twice(n api.Node) api.Fault {
	asked := strings.Fields("Bool List Unit Tup2 Tup3 Tup4 =False =True =Nil =Cons =Unit =Tup2 =Tup3 =Tup4")
	var fault api.Fault
	testkit.Each(&n, func(k *api.Node) {
		if k.Kind != api.NdData && k.Kind != api.NdConDef {
			return
		}
		name := k.Name
		if k.Kind == api.NdConDef {
			name = "=" + name
		}
		if slices.Contains(asked, name) && fault.Err == api.OK {
			fault = api.Fault{Err: api.ErrScope, At: k.At}
		}
		asked = append(asked, name)
	})
	return fault
}

// outer is a program without what stands in inner blocks: these tell of no constructors.
func outer(n api.Node) api.Node {
	n.Kids = slices.DeleteFunc(slices.Clone(n.Kids), func(k api.Node) bool { return k.Kind != api.NdData })
	return n
}

// reference tells a program's constructors, and its first fault, by lists that are gone through for each thing anew.
func reference(n api.Node) ([]api.Con, api.Fault) {
	if f := twice(outer(n)); f.Err != api.OK {
		return nil, f
	}
	text := ""
	for _, d := range outer(n).Kids {
		text += " " + d.Name + "="
		for i, c := range d.Kids {
			text += strings.Repeat(",", min(i, 1)) + c.Name + "/" + strconv.FormatInt(c.Num, 10)
		}
	}
	l, fault := with(text), api.Fault{}
	testkit.Each(&n, func(k *api.Node) {
		at := slices.IndexFunc(l, func(c api.Con) bool { return c.Name == k.Name || c.Name == "Cons" && k.Name == ":" })
		switch {
		case fault.Err != api.OK, k.Kind != api.NdCon && k.Kind != api.NdPCon:
		case at < 0:
			fault = api.Fault{Err: api.ErrScope, At: k.At}
		case k.Kind == api.NdPCon && l[at].Arity != len(k.Kids):
			fault = api.Fault{Err: api.ErrShape, At: k.At}
		}
	})
	return l, fault
}

// P9.1, P9.3: what is told of programs made by chance, spoilt seldom and often, is what the reference tells.
func TestMadePrograms(t *testing.T) {
	came := map[api.Errno]int{}
	for i, spoils := range [][2]int{{0, 0}, {0, 1}, {0, 3}, {10, 0}, {40, 10}} {
		m := newMaker(int64(i) + 1)
		m.defined, m.used = spoils[0], spoils[1]
		for range 3000 {
			n := m.program()
			text, e := syntax.Text(n)
			if e != api.OK {
				t.Fatalf("what was made may not be: %v", n)
			}
			l, want := reference(n)
			if l == nil {
				checkConsFault(t, text, n, want)
			} else {
				checkCons(t, text, n, l)
				checkFault(t, text, n, want)
			}
			if i == 0 && want.Err != api.OK {
				t.Errorf("%s is spoilt: %v", text, want)
			}
			came[want.Err]++
		}
	}
	if came[api.OK] < 3000 || came[api.ErrScope] < 1000 || came[api.ErrShape] < 1000 {
		t.Errorf("what came is no good mixture: %v", came)
	}
}

// P9.4: Tags are 0, 1, 2, .. in each Type, no Name stands twice; core takes what Cons tells.
func TestTagsAndNames(t *testing.T) {
	m := newMaker(7)
	main := []api.Bind{{Name: "main", E: api.Expr{Kind: api.ExInt, Num: 1}}}
	for range 3000 {
		l, f := shape.Cons(m.program())
		if f != (api.Fault{}) {
			t.Fatal(f)
		}
		tags, names := map[string]int{}, map[string]int{}
		for i, c := range l {
			if c.Tag != tags[c.Type] || names[c.Name] > 0 || i > 0 && l[i-1].Type > c.Type {
				t.Errorf("%v stands wrong in %v", c, l)
			}
			tags[c.Type]++
			names[c.Name]++
			if got, ok := shape.Find(l, c.Name); got != c || !ok {
				t.Errorf("Find of %v: %v, %v", c, got, ok)
			}
		}
		for _, c := range l {
			of := shape.Type(l, c.Name)
			if len(of) != tags[c.Type] || of[c.Tag] != c || shape.Only(l, c.Name) != (tags[c.Type] == 1) {
				t.Errorf("%v: Type %v, Only %v", c, of, shape.Only(l, c.Name))
			}
		}
		if e := core.Check(api.Prog{Cons: l, Binds: main}); e != api.OK {
			t.Errorf("core: %v of %v", e, l)
		}
	}
}

// P9.4: places count nothing but for where a fault is told.
func TestOtherPlaces(t *testing.T) {
	came := map[bool]int{}
	for i, spoils := range [][2]int{{0, 0}, {20, 5}} {
		m := newMaker(int64(i) + 11)
		m.defined, m.used = spoils[0], spoils[1]
		for range 3000 {
			n := m.program()
			want := shape.Check(n)
			cons, _ := shape.Cons(n)
			others := map[int]int{0: 0}
			moved := testkit.Copied(n)
			testkit.Each(&moved, func(n *api.Node) {
				others[n.At] = m.chance.Intn(1000) - 500
				n.At = others[n.At]
			})
			want.At = others[want.At]
			text, _ := syntax.Text(n)
			checkFault(t, text, moved, want)
			if got, _ := shape.Cons(moved); !slices.Equal(got, cons) {
				t.Errorf("%s: other constructors at other places: %v", text, got)
			}
			came[want.Err == api.OK]++
		}
	}
	if came[true] < 3000 || came[false] < 500 {
		t.Errorf("what came is no good mixture: %v", came)
	}
}
