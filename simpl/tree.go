package simpl

import (
	"slices"
	"strconv"

	"thunkmill/api"
	"thunkmill/core"
	"thunkmill/occur"
)

// tree is a copy of an expression that is being rewritten. Its bound names are unlike each other and unlike the free ones, so that no name catches another one, wherever its expression is moved; and all that is moved takes no walk to find out how often its names stand.
type tree struct {
	root  api.Expr
	size  int
	rules []rule
	way   way
	clean int // how many stops of the way, from the first on, have nothing to which a rule applies
	bound map[string]*binder
	taken map[string]struct{} // all names, the free ones too
	fresh int                 // how many new names were made
	lets  int                 // how many lets there were, those that are gone too
	scope map[string]*binder  // what the names of what is being copied are bound by
}

// binder is a bound name, and what is known of it in its scope.
type binder struct {
	name   string
	let    int // which let binds it; 0, if none does
	places int
	occ    int // only of one that stands at one place; unknown, where it must be asked for
}

const unknown = 0

func newTree(e *api.Expr) *tree {
	t := &tree{size: size(e), rules: rules(), bound: map[string]*binder{}, taken: map[string]struct{}{}, scope: map[string]*binder{}}
	for _, name := range core.Free(*e) {
		t.taken[name] = struct{}{}
	}
	t.root = t.copied(e)
	t.way = way{{e: &t.root}}
	return t
}

// copied is a copy with bound names of its own.
func (t *tree) copied(e *api.Expr) api.Expr {
	c := api.Expr{Kind: e.Kind, Name: e.Name, Num: e.Num}
	switch e.Kind {
	case api.ExVar:
		c.Name = t.met(e.Name)
	case api.ExLam:
		t.within(e.Params, 0, func(own []string) {
			c.Params, c.Args = own, t.copiedExprs(e.Args)
		})
	case api.ExLet:
		t.lets++
		t.within(boundBy(e.Binds), t.lets, func(own []string) {
			c.Binds, c.Args = t.copiedBinds(e.Binds, own), t.copiedExprs(e.Args)
		})
	default:
		c.Args, c.Alts = t.copiedExprs(e.Args), t.copiedAlts(e.Alts)
	}
	return c
}

func (t *tree) copiedExprs(l []api.Expr) []api.Expr {
	c := slices.Clone(l)
	for i := range c {
		c[i] = t.copied(&l[i])
	}
	return c
}

func (t *tree) copiedBinds(l []api.Bind, own []string) []api.Bind {
	c := slices.Clone(l)
	for i := range c {
		c[i] = api.Bind{Name: own[i], E: t.copied(&l[i].E)}
	}
	return c
}

func (t *tree) copiedAlts(l []api.Alt) []api.Alt {
	c := slices.Clone(l)
	for i := range c {
		t.within(l[i].Vars, 0, func(own []string) {
			c[i].Vars, c[i].E = own, t.copied(&l[i].E)
		})
	}
	return c
}

// within calls a function in the scope of some names, with the names that they have in the tree; and tells which let binds them.
func (t *tree) within(names []string, by int, do func(own []string)) {
	own, hidden := slices.Clone(names), make([]*binder, len(names))
	for i, name := range names {
		b := &binder{name: t.unlike(name), let: by}
		own[i], hidden[i] = b.name, t.scope[name]
		t.bound[b.name], t.scope[name] = b, b
	}
	do(own)
	for i, name := range names {
		t.scope[name] = hidden[i]
	}
}

// unlike is a name itself, or, if that is taken, a new one, made of a number alone: what is made of an old name could be too long.
func (t *tree) unlike(name string) string {
	for {
		if _, there := t.taken[name]; !there {
			t.taken[name] = struct{}{}
			return name
		}
		t.fresh++
		name = "v" + strconv.Itoa(t.fresh)
	}
}

// met tells a variable's name in the tree, where it stands at one place more.
func (t *tree) met(name string) string {
	if b := t.scope[name]; b != nil {
		name = b.name
	}
	t.stands(name, 1)
	return name
}

// stands notes that a name stands at so many places more.
func (t *tree) stands(name string, more int) {
	b := t.bound[name]
	if b == nil {
		return
	}
	b.places += more
	b.occ = unknown
}

// drop notes that an expression goes.
func (t *tree) drop(e *api.Expr) {
	if e.Kind == api.ExVar {
		t.stands(e.Name, -1)
	}
	for i := range parts(e) {
		t.drop(part(e, i))
	}
}

// bare notes that an expression is within one lambda less.
func (t *tree) bare(e *api.Expr) {
	if e.Kind == api.ExVar {
		t.bared(e.Name)
	}
	for i := range parts(e) {
		t.bare(part(e, i))
	}
}

// bared notes that one of a name's places is within one lambda less, which counts only for one that is within a lambda.
func (t *tree) bared(name string) {
	if b := t.bound[name]; b != nil && b.occ == api.OccLam {
		b.occ = unknown
	}
}

// learn asks for what is unknown of an expression's binders. All are asked for at once: one by one, each would take a walk through its scope.
func (t *tree) learn(e *api.Expr) {
	l, _ := occur.All(*e)
	for _, o := range l {
		t.bound[o.Name].occ = o.Occ
	}
}

func boundBy(l []api.Bind) []string {
	names := make([]string, len(l))
	for i := range l {
		names[i] = l[i].Name
	}
	return names
}
