package scope_test

import (
	"slices"
	"strconv"
	"strings"

	"thunkmill/api"
	"thunkmill/prim"
)

// The reference goes the other way round: from each name up to those that stand around it, each asked what it offers to the kid through which the way leads. Faults are gathered with keys, and the one with the least key is the first.

// way leads from a tree's root to a node: the nodes on it, and which kid was taken from each.
type way struct {
	nodes []api.Node
	taken []int
}

func (w way) end() api.Node { return w.nodes[len(w.nodes)-1] }

func (w way) kid(i int) way {
	return way{append(slices.Clone(w.nodes), w.end().Kids[i]), append(slices.Clone(w.taken), i)}
}

// ways are those to all nodes of a tree.
func ways(w way) []way {
	all := []way{w}
	for i := range w.end().Kids {
		all = append(all, ways(w.kid(i))...)
	}
	return all
}

func waysOf(n api.Node) []way { return ways(way{nodes: []api.Node{n}}) }

// key has the document's order: that of kids is theirs, but that a comprehension's first is behind all others.
func (w way) key() []int {
	var key []int
	for i, taken := range w.taken {
		if w.nodes[i].Kind == api.NdComp && taken == 0 {
			taken = 1 << 20
		}
		key = append(key, taken)
	}
	return key
}

// offer is names, and which node they are of.
type offer struct {
	of    string
	names []string
}

// place is a text for a node at the end of a way, none the same as another one's.
func place(taken []int, more ...int) string {
	text := "root"
	for _, i := range append(slices.Clone(taken), more...) {
		text += "." + strconv.Itoa(i)
	}
	return text
}

// offers are those of a node to one of its kids, the outermost first.
func offers(n api.Node, at []int, kid int) []offer {
	last := len(n.Kids) - 1
	switch n.Kind {
	case api.NdProgram:
		return []offer{{place(at), definedIn(n.Kids)}}
	case api.NdLets, api.NdLet:
		return []offer{{place(at, 0), definedIn(n.Kids[0].Kids)}}
	case api.NdRhs:
		if n.Kids[last].Kind == api.NdWhere {
			return []offer{{place(at, last), definedIn(n.Kids[last].Kids)}}
		}
	case api.NdEqn, api.NdLam, api.NdAlt:
		if kid == last {
			return []offer{{place(at), namesIn(n.Kids[:last])}}
		}
	case api.NdDo:
		return offersAhead(n, at, 0, kid)
	case api.NdComp:
		if kid == 0 {
			kid = last + 1
		}
		return offersAhead(n, at, 1, kid)
	}
	return nil
}

// offersAhead are those of statements to what follows.
func offersAhead(n api.Node, at []int, from, to int) []offer {
	var l []offer
	for i := from; i < to; i++ {
		switch k := n.Kids[i]; k.Kind {
		case api.NdGen:
			l = append(l, offer{place(at, i), namesIn(k.Kids[:1])})
		case api.NdLets:
			l = append(l, offer{place(at, i, 0), definedIn(k.Kids[0].Kids)})
		}
	}
	return l
}

func namesIn(l []api.Node) []string {
	var names []string
	for _, n := range l {
		for _, w := range waysOf(n) {
			if k := w.end(); k.Kind == api.NdPVar || k.Kind == api.NdPAs {
				names = append(names, k.Name)
			}
		}
	}
	return names
}

func definedIn(decls []api.Node) []string {
	var names []string
	for i, d := range decls {
		switch {
		case d.Kind == api.NdBind:
			names = append(names, namesIn(d.Kids[:1])...)
		case d.Kind == api.NdEqn && (i == 0 || decls[i-1].Kind != api.NdEqn || decls[i-1].Name != d.Name):
			names = append(names, d.Name)
		}
	}
	return names
}

// asks tells whether a node asks for its Name.
func asks(n api.Node) bool {
	section := n.Kind == api.NdLeft || n.Kind == api.NdRight
	return n.Kind == api.NdVar || section && !strings.ContainsAny(n.Name[:1], ":ABCDEFGHIJKLMNOPQRSTUVWXYZ")
}

// binder tells which node on, or beside, a way offers a name to its end; none, if it is free there.
func (w way) binder(name string) string {
	of := ""
	for i, taken := range w.taken {
		for _, o := range offers(w.nodes[i], w.taken[:i], taken) {
			if slices.Contains(o.names, name) {
				of = o.of
			}
		}
	}
	return of
}

// keyed is a fault with its key.
type keyed struct {
	key   []int
	fault api.Fault
}

// faultsOf are all faults of a program's names, the first one first.
func faultsOf(n api.Node) []keyed {
	var l []keyed
	for _, w := range waysOf(n) {
		k := w.end()
		if asks(k) && w.binder(k.Name) == "" && !slices.Contains(prim.Names(), k.Name) {
			l = append(l, keyed{w.key(), api.Fault{Err: api.ErrScope, At: k.At}})
		}
		switch k.Kind {
		case api.NdProgram, api.NdWhere:
			for i := range k.Kids {
				if e := faultOf(k.Kids, i); e != api.OK {
					l = append(l, keyed{append(w.key(), -1, i), api.Fault{Err: e, At: k.Kids[i].At}})
				}
			}
		case api.NdPVar, api.NdPAs:
			if w.twice() {
				l = append(l, keyed{w.key(), api.Fault{Err: api.ErrScope, At: k.At}})
			}
		}
	}
	slices.SortStableFunc(l, func(a, b keyed) int { return slices.Compare(a.key, b.key) })
	return l
}

// twice tells whether a pattern's name stands ahead of it in those that stand together with it. A binding's are asked as declarations.
func (w way) twice() bool {
	from := len(w.nodes) - 1
	for w.nodes[from].Kind >= api.NdPVar {
		from--
	}
	owner := w.nodes[from]
	if owner.Kind == api.NdBind {
		return false
	}
	ahead := namesIn(owner.Kids[:w.taken[from]])
	for _, other := range waysOf(owner.Kids[w.taken[from]]) {
		if k := other.end(); (k.Kind == api.NdPVar || k.Kind == api.NdPAs) && slices.Compare(other.taken, w.taken[from+1:]) < 0 {
			ahead = append(ahead, k.Name)
		}
	}
	return slices.Contains(ahead, w.end().Name)
}

// faultOf is what is wrong with the i-th of some declarations.
func faultOf(decls []api.Node, i int) api.Errno {
	d := decls[i]
	if i > 0 && d.Kind == api.NdEqn && decls[i-1].Kind == api.NdEqn && decls[i-1].Name == d.Name {
		if len(decls[i-1].Kids) != len(d.Kids) {
			return api.ErrShape
		}
		return api.OK
	}
	ahead := definedIn(decls[:i])
	for _, name := range definedIn(decls[i : i+1]) {
		if slices.Contains(ahead, name) {
			return api.ErrScope
		}
		ahead = append(ahead, name)
	}
	return api.OK
}

// freeIn are the free names of a node, by the reference.
func freeIn(n api.Node) []string {
	var l []string
	for _, w := range waysOf(n) {
		if k := w.end(); asks(k) && w.binder(k.Name) == "" {
			l = append(l, k.Name)
		}
	}
	slices.Sort(l)
	return slices.Compact(l)
}
