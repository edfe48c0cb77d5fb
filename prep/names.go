package prep

import (
	"maps"
	"strconv"

	"thunkmill/api"
)

// set is some names.
type set map[string]struct{}

// add tells whether a name is new.
func (s set) add(name string) bool {
	_, there := s[name]
	s[name] = struct{}{}
	return !there
}

// names makes new ones, unlike each other and those of a program's Binds. No bound name stays, so that there are no others.
type names struct {
	last  int
	binds set
}

func newNames(l []api.Bind) *names {
	n := &names{binds: set{}}
	for i := range l {
		n.binds.add(l[i].Name)
	}
	return n
}

func (n *names) next() string {
	for {
		n.last++
		name := "v" + strconv.Itoa(n.last)
		if _, there := n.binds[name]; !there {
			return name
		}
	}
}

// scope tells the new names of those that are bound around a place.
type scope struct {
	near  map[string]called
	outer *scope // where to ask for what is not near; nil, if that is no bound name
}

// called is a bound name's new name.
type called struct {
	name string
}

// mostNear is how many names are copied for a scope within another one: each small scope within a great one would copy all of that one's names else.
const mostNear = 128

func newScope() *scope {
	return &scope{near: map[string]called{}}
}

// with tells the scope in which more names are bound, and their new names.
func (s *scope) with(bound []string, n *names) (*scope, []string) {
	if len(bound) == 0 {
		return s, nil
	}
	inner := s.inner()
	own := make([]string, len(bound))
	for i, name := range bound {
		own[i] = n.next()
		inner.near[name] = called{own[i]}
	}
	return inner, own
}

// inner is a scope of the same names, whose map may be written.
func (s *scope) inner() *scope {
	if len(s.near) > mostNear {
		return &scope{near: map[string]called{}, outer: s}
	}
	return &scope{near: maps.Clone(s.near), outer: s.outer}
}

// of tells what a name is called: as before, if it is not bound here.
func (s *scope) of(name string) string {
	for ; s != nil; s = s.outer {
		if c, there := s.near[name]; there {
			return c.name
		}
	}
	return name
}

// allBound tells whether ok holds of all names that are bound in an expression.
func allBound(e *api.Expr, ok func(name string) bool) bool {
	for _, name := range e.Params {
		if !ok(name) {
			return false
		}
	}
	for i := range e.Binds {
		if !ok(e.Binds[i].Name) || !allBound(&e.Binds[i].E, ok) {
			return false
		}
	}
	for i := range e.Args {
		if !allBound(&e.Args[i], ok) {
			return false
		}
	}
	for i := range e.Alts {
		for _, name := range e.Alts[i].Vars {
			if !ok(name) {
				return false
			}
		}
		if !allBound(&e.Alts[i].E, ok) {
			return false
		}
	}
	return true
}

func boundBy(l []api.Bind) []string {
	bound := make([]string, len(l))
	for i := range l {
		bound[i] = l[i].Name
	}
	return bound
}
