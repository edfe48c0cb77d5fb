package scope_test

import (
	"slices"
	"strconv"
	"strings"
	"testing"

	"thunkmill/api"
	"thunkmill/prim"
	"thunkmill/scope"
	"thunkmill/shape"
	"thunkmill/testkit"
)

// maker makes programs by chance that shape has no fault of.
type maker struct {
	testkit.Trees
	fresh int
}

func (m *maker) newName() string {
	m.fresh++
	return "n" + strconv.Itoa(m.fresh)
}

// program is one whose nodes have places of their own, none of them too great for the reference.
func (m *maker) program() api.Node {
	for {
		n, size := api.Node{Kind: api.NdProgram}, 0
		for range 2 + m.Chance.Intn(5) {
			l := testkit.Declarations()
			n.Kids = append(n.Kids, m.Tree(l[m.Chance.Intn(len(l))], 2+m.Chance.Intn(4)))
		}
		testkit.Each(&n, func(n *api.Node) { size++ })
		if size > 250 || size < 40 {
			continue
		}
		m.joinFunctions(&n)
		testkit.Each(&n, m.shaped)
		return testkit.Placed(n)
	}
}

// joinFunctions puts one more equation behind some, so that functions have several.
func (m *maker) joinFunctions(n *api.Node) {
	testkit.Each(n, func(n *api.Node) {
		if n.Kind != api.NdProgram && n.Kind != api.NdWhere {
			return
		}
		for i := len(n.Kids) - 1; i >= 0; i-- {
			if n.Kids[i].Kind == api.NdEqn && m.Chance.Intn(2) == 0 {
				more := testkit.Copied(n.Kids[i])
				if m.Chance.Intn(3) == 0 {
					more.Kids = append([]api.Node{{Kind: api.NdPAny}}, more.Kids...)
				}
				n.Kids = slices.Insert(n.Kids, i+1, more)
			}
		}
	})
}

// shaped gives a node a constructor that there is, and some a primitive's name.
func (m *maker) shaped(n *api.Node) {
	switch n.Kind {
	case api.NdData:
		n.Name = "T" + m.newName()
	case api.NdConDef:
		n.Name = "C" + m.newName()
	case api.NdCon:
		n.Name = m.Pick("True", "Cons", "Tup4", ":")
	case api.NdPCon:
		name, there := map[int]string{0: "Nil", 2: "Cons", 3: "Tup3", 4: "Tup4"}[len(n.Kids)]
		n.Name = name
		if !there {
			n.Kind = api.NdPList
		}
	case api.NdVar, api.NdEqn, api.NdPVar:
		if m.Chance.Intn(8) == 0 {
			n.Name = m.Pick("add", "getc", "seq")
		}
	}
}

// mend takes a fault out of a program: the node at its place gets another name.
func (m *maker) mend(n *api.Node, f api.Fault) {
	testkit.Each(n, func(n *api.Node) {
		if n.At != f.At {
			return
		}
		switch n.Kind {
		case api.NdVar, api.NdLeft, api.NdRight:
			n.Name = m.Pick("add", "sub")
		case api.NdBind:
			testkit.Each(&n.Kids[0], func(p *api.Node) {
				if p.Name != "" && (p.Kind == api.NdPVar || p.Kind == api.NdPAs) {
					p.Name = m.newName()
				}
			})
		default:
			n.Name = m.newName()
		}
	})
}

// P10.1: the faults of programs made by chance, one after the other, each being mended, are those of the reference, and so are all free names on the way.
func TestMadePrograms(t *testing.T) {
	m := &maker{Trees: testkit.Trees{Chance: seeded(10)}}
	told := map[string]int{}
	for range 600 {
		n := m.program()
		for range 400 {
			l := faultsOf(n)
			if len(l) == 0 {
				break
			}
			checkFault(t, "made", n, l[0].fault)
			testkit.Each(&n, func(k *api.Node) {
				if k.At == l[0].fault.At {
					told[strconv.Itoa(k.Kind)+" "+strconv.Itoa(int(l[0].fault.Err))]++
				}
			})
			m.mend(&n, l[0].fault)
		}
		checkFault(t, "mended", n, api.Fault{})
		checkFrees(t, n)
		told["fine"]++
		if t.Failed() {
			t.Fatalf("in %v", n)
		}
	}
	for what, least := range map[string]int{
		"fine": 600, kind(api.NdVar, api.ErrScope): 2000, kind(api.NdLeft, api.ErrScope): 100, kind(api.NdRight, api.ErrScope): 100,
		kind(api.NdPVar, api.ErrScope): 300, kind(api.NdPAs, api.ErrScope): 50, kind(api.NdBind, api.ErrScope): 80, kind(api.NdEqn, api.ErrScope): 80, kind(api.NdEqn, api.ErrShape): 100,
	} {
		if told[what] < least {
			t.Errorf("%d faults of the kind %s, want %d at least: %v", told[what], what, least, told)
		}
	}
}

func kind(of int, e api.Errno) string { return strconv.Itoa(of) + " " + strconv.Itoa(int(e)) }

// checkFrees holds the free names of each node of a program without a fault to the reference, and to P10.2: those of its declarations are primitives, or what it defines.
func checkFrees(t *testing.T, n api.Node) {
	t.Helper()
	known := append(scope.Defines(n.Kids), prim.Names()...)
	for _, d := range n.Kids {
		for _, name := range scope.Free(d) {
			if !slices.Contains(known, name) {
				t.Errorf("%s is free in a declaration", name)
			}
		}
	}
	for _, name := range scope.Free(n) {
		if !slices.Contains(prim.Names(), name) {
			t.Errorf("%s is free in a program", name)
		}
	}
	testkit.Each(&n, func(k *api.Node) {
		want := freeIn(*k)
		if !slices.Contains(testkit.Expressions(), k.Kind) && !slices.Contains(testkit.Declarations(), k.Kind) && k.Kind != api.NdRhs {
			want = nil
		}
		checkNames(t, "Free", scope.Free(*k), strings.Join(want, " "))
		if k.Kind == api.NdWhere || k.Kind == api.NdProgram {
			checkNames(t, "Defines", scope.Defines(k.Kids), strings.Join(definedIn(k.Kids), " "))
		}
		if k.Kind >= api.NdPVar {
			checkNames(t, "Names", scope.Names(k.Kids), strings.Join(namesIn(k.Kids), " "))
		}
	})
}

// P10.1: Free of nodes that have faults of their own, too.
func TestMadeFrees(t *testing.T) {
	m := &maker{Trees: testkit.Trees{Chance: seeded(11)}}
	some := 0
	for range 4000 {
		of := append(testkit.Expressions(), testkit.Declarations()...)
		n := m.Tree(of[m.Chance.Intn(len(of))], 1+m.Chance.Intn(5))
		got := scope.Free(n)
		checkNames(t, "Free", got, strings.Join(freeIn(n), " "))
		if len(got) > 2 {
			some++
		}
	}
	if some < 500 {
		t.Errorf("%d nodes with more than two free names", some)
	}
}

// rename gives one binder of a program's a fresh name, with all that are bound by it; it tells which name it was.
func (m *maker) rename(n *api.Node) (old, new string) {
	type bound struct {
		at       int
		of, name string
	}
	var all []bound
	for _, w := range waysOf(*n) {
		k := w.end()
		switch {
		case asks(k):
			all = append(all, bound{k.At, w.binder(k.Name), k.Name})
		case k.Kind == api.NdEqn:
			all = append(all, bound{k.At, place(w.taken[:len(w.taken)-1]), k.Name})
		case k.Kind == api.NdPVar || k.Kind == api.NdPAs:
			all = append(all, bound{k.At, w.owner(), k.Name})
		}
	}
	all = slices.DeleteFunc(all, func(b bound) bool { return b.of == "" }) // a primitive
	if len(all) == 0 {
		return "", ""
	}
	one, fresh := all[m.Chance.Intn(len(all))], m.newName()
	testkit.Each(n, func(k *api.Node) {
		for _, b := range all {
			if b.at == k.At && b.of == one.of && b.name == one.name {
				k.Name = fresh
			}
		}
	})
	return one.name, fresh
}

// owner tells which node offers the name of a pattern at a way's end.
func (w way) owner() string {
	i := len(w.nodes) - 1
	for w.nodes[i].Kind >= api.NdPVar {
		i--
	}
	if w.nodes[i].Kind == api.NdBind {
		i--
	}
	return place(w.taken[:i])
}

// P10.2: one binder after the other is renamed, with all that it binds: the program has no fault as before, and the same names are free in its declarations.
func TestRenaming(t *testing.T) {
	m := &maker{Trees: testkit.Trees{Chance: seeded(12)}}
	renamed := 0
	for range 100 {
		n := m.program()
		for l := faultsOf(n); len(l) > 0; l = faultsOf(n) {
			m.mend(&n, l[0].fault)
		}
		for range 10 {
			before := testkit.Copied(n)
			old, fresh := m.rename(&n)
			if old == "" {
				break
			}
			renamed++
			checkFault(t, "renamed", n, api.Fault{})
			for i, d := range n.Kids {
				if got, want := scope.Free(d), scope.Free(before.Kids[i]); slices.Contains(got, fresh) {
					if !slices.Contains(scope.Defines(n.Kids), fresh) || !slices.Contains(want, old) {
						t.Errorf("%s, that was %s, is free in a declaration", fresh, old)
					}
				} else if !slices.Equal(got, want) {
					t.Errorf("free are %v, were %v", got, want)
				}
			}
			if t.Failed() {
				t.Fatalf("%s became %s in %v", old, fresh, n)
			}
		}
	}
	if renamed < 900 {
		t.Errorf("%d binders renamed", renamed)
	}
}

// P10.2: a name that is bound wherever it stands is renamed throughout a program with faults: they stay where they are.
func TestRenamingThroughout(t *testing.T) {
	m := &maker{Trees: testkit.Trees{Chance: seeded(13)}}
	checked := 0
	for range 800 {
		n := m.program()
		name := m.Pick("x", "f", "_y'", "aB1", "add", "+")
		missing := false
		for _, w := range waysOf(n) {
			k := w.end()
			missing = missing || asks(k) && k.Name == name && w.binder(name) == ""
		}
		if missing {
			continue
		}
		want := scope.Check(n)
		testkit.Each(&n, func(k *api.Node) {
			if k.Name == name && (k.Kind == api.NdEqn || k.Kind == api.NdPVar || k.Kind == api.NdPAs || asks(*k)) {
				k.Name = "fresh"
				checked++
			}
		})
		checkFault(t, "renamed throughout", n, want)
	}
	if checked < 300 {
		t.Errorf("%d names renamed", checked)
	}
}

// The programs made by chance are such that shape has no fault of them.
func TestMadeProgramsHaveShape(t *testing.T) {
	m := &maker{Trees: testkit.Trees{Chance: seeded(14)}}
	for range 500 {
		if f := shape.Check(m.program()); f != (api.Fault{}) {
			t.Fatalf("shape's fault %v", f)
		}
	}
}
