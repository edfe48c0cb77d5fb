package simpl

import (
	"slices"

	"thunkmill/api"
	"thunkmill/occur"
)

// dead is the place of the first binding whose name stands nowhere; -1, if there is none.
func (t *tree) dead(e *api.Expr) int {
	for i := range e.Binds {
		if t.bound[e.Binds[i].Name].places == 0 {
			return i
		}
	}
	return -1
}

func (t *tree) hasDead(e *api.Expr) bool { return t.dead(e) >= 0 }

func (t *tree) withoutDead(e *api.Expr) api.Expr {
	i := t.dead(e)
	t.drop(&e.Binds[i].E)
	return without(e, i)
}

// without is a let without one of its bindings. That may be done in place: nothing gets greater by it, so that it will not be refused.
func without(e *api.Expr, i int) api.Expr {
	if len(e.Binds) == 1 {
		return e.Args[0]
	}
	return let(slices.Delete(e.Binds, i, i+1), e.Args[0])
}

func let(l []api.Bind, body api.Expr) api.Expr {
	return api.Expr{Kind: api.ExLet, Binds: l, Args: []api.Expr{body}}
}

// letOf is a let of names that were bound otherwise.
func (t *tree) letOf(names []string, l []api.Expr, body api.Expr) api.Expr {
	t.lets++
	binds := make([]api.Bind, len(names))
	for i, name := range names {
		t.bound[name].let = t.lets
		binds[i] = api.Bind{Name: name, E: l[i]}
	}
	return let(binds, body)
}

// atom is the place of the first binding that is a number, a character, or a variable that the let does not bind; -1, if there is none.
func (t *tree) atom(e *api.Expr) int {
	for i := range e.Binds {
		switch b := &e.Binds[i]; b.E.Kind {
		case api.ExInt, api.ExChar:
			return i
		case api.ExVar:
			if x := t.bound[b.E.Name]; x == nil || x.let != t.bound[b.Name].let {
				return i
			}
		}
	}
	return -1
}

func (t *tree) hasAtom(e *api.Expr) bool { return t.atom(e) >= 0 }

func (t *tree) withoutAtom(e *api.Expr) api.Expr {
	i := t.atom(e)
	b := e.Binds[i]
	if b.E.Kind == api.ExVar {
		t.stands(b.E.Name, t.bound[b.Name].places-1)
	}
	rest := without(e, i)
	put(&rest, b.Name, &b.E)
	return rest
}

// put puts an atom wherever a name stands, in place likewise.
func put(e *api.Expr, name string, atom *api.Expr) {
	if e.Kind == api.ExVar && e.Name == name {
		*e = *atom
		return
	}
	for i := range parts(e) {
		put(part(e, i), name, atom)
	}
}

func (t *tree) hasOnce(e *api.Expr) bool {
	if len(e.Binds) != 1 {
		return false
	}
	b := &e.Binds[0]
	x := t.bound[b.Name]
	if x.places != 1 {
		return false
	}
	if x.occ == unknown {
		t.learn(e)
	}
	if x.occ != api.OccOnce && (x.occ != api.OccLam || b.E.Kind != api.ExLam) {
		return false
	}
	if n, _ := occur.Count(b.E, b.Name); n > 0 {
		// It stands in its own binding alone, and will not come out of it: that need not be found again.
		x.occ = api.OccMany
		return false
	}
	return true
}

func (t *tree) withoutOnce(e *api.Expr) api.Expr {
	b := &e.Binds[0]
	return *placed(&e.Args[0], b.Name, &b.E)
}

// placed is an expression with another one where a name stands, which stands at one place; nil, if it stands nowhere. What was there stays as it is: it may turn out that there is no room.
func placed(e *api.Expr, name string, by *api.Expr) *api.Expr {
	if e.Kind == api.ExVar && e.Name == name {
		return by
	}
	for i := range parts(e) {
		if p := placed(part(e, i), name, by); p != nil {
			return withPart(*e, i, p)
		}
	}
	return nil
}

// withPart is an expression with another i-th part.
func withPart(e api.Expr, i int, p *api.Expr) *api.Expr {
	switch {
	case i < len(e.Binds):
		e.Binds = slices.Clone(e.Binds)
	case i < len(e.Binds)+len(e.Args):
		e.Args = slices.Clone(e.Args)
	default:
		e.Alts = slices.Clone(e.Alts)
	}
	*part(&e, i) = *p
	return &e
}
