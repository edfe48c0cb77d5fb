package lift

import (
	"maps"
	"slices"

	"thunkmill/api"
)

// choose is called at a let that is known and fits, with how its names stand, and its free variables, rising. It tells whether the let is lifted.
type choose func(l []api.Bind, own uses, free []string) bool

// searched is what is there when a program is searched.
type searched struct {
	*plan
	own    map[string]struct{} // the names of the program's Binds
	choose choose
}

// search goes through a prepared program's Binds. What is chosen to be lifted, and is so by the plan, counts as lifted for what comes behind it, and for what is around it.
func search(l []api.Bind, as *plan, by choose) {
	s := &searched{plan: as, own: map[string]struct{}{}, choose: by}
	for i := range l {
		s.own[l[i].Name] = struct{}{}
	}
	for i := range l {
		visit(&l[i].E, (&piece{searched: s}).at)
	}
}

// piece is what is known so far of a Bind's expression, or of a let's right sides, or its body.
type piece struct {
	*searched
	found uses     // what stands in it, but for names of the program's Binds
	bound []string // what is bound in it, and so is not free
}

func (p *piece) at(e *api.Expr) (within bool) {
	switch e.Kind {
	case api.ExLet:
		p.let(e)
		return false
	case api.ExApp:
		p.application(e)
		return false
	}
	p.addAt(e)
	p.bound = append(p.bound, e.Params...)
	for i := range e.Alts {
		p.bound = append(p.bound, e.Alts[i].Vars...)
	}
	return true
}

// application goes through the parts first: a let that is lifted may leave a name that is applied then.
func (p *piece) application(e *api.Expr) {
	for i := range e.Args {
		visit(&e.Args[i], p.at)
	}
	p.addAt(e)
}

func (p *piece) addAt(e *api.Expr) {
	if name, u, ok := p.occurrence(e); ok {
		p.add(name, u)
	}
}

func (p *piece) add(name string, u use) {
	if _, there := p.own[name]; there {
		return
	}
	if p.found == nil {
		p.found = uses{}
	}
	p.found.add(name, u)
}

// free is what is free in a piece that has been gone through.
func (p *piece) free() uses {
	for _, name := range p.bound {
		delete(p.found, name)
	}
	return p.found
}

func (p *piece) let(e *api.Expr) {
	right, body := &piece{searched: p.searched}, &piece{searched: p.searched}
	for i := range e.Binds {
		visit(&e.Binds[i].E, right.at)
	}
	visit(&e.Args[0], body.at)
	inRight, inBody := right.free(), body.free()
	own, calls := takeOwn(e.Binds, inRight, inBody)
	if !p.mayLift(e.Binds, own, len(inRight)) || !p.choose(e.Binds, own, slices.Sorted(maps.Keys(inRight))) {
		p.found = joined(p.found, joined(inRight, inBody))
		return
	}
	p.found = joined(p.found, inBody)
	if calls == 0 {
		return
	}
	for name := range inRight {
		p.add(name, use{places: calls})
	}
}

// takeOwn takes a let's own names out of what is found in its right sides and its body, and tells how they stand, and how many applications of them the body has.
func takeOwn(l []api.Bind, right, body uses) (own uses, calls int) {
	own = uses{}
	for i := range l {
		name := l[i].Name
		own[name] = right[name].and(body[name])
		calls += body[name].calls
		delete(right, name)
		delete(body, name)
	}
	return own, calls
}
