package scope

import (
	"iter"
	"maps"

	"thunkmill/api"
)

// names is a set of names.
type names map[string]struct{}

// add tells whether a name is new.
func (l names) add(name string) bool {
	_, there := l[name]
	l[name] = struct{}{}
	return !there
}

// addAll tells whether all are new, and none comes twice.
func (l names) addAll(more []string) bool {
	fresh := true
	for _, name := range more {
		fresh = l.add(name) && fresh
	}
	return fresh
}

// scope is the names that are there. Since only that is asked of a name, one that hides another needs no place of its own.
type scope struct {
	many, few names
}

// mostFew is how many names are copied for a block that adds some: with the many of a great block in one map, each small block in it would copy all of them.
const mostFew = 128

func newScope() scope {
	return scope{many: names{}, few: names{}}
}

// with tells the scope of a block in s that adds names.
func (s scope) with(more []string) scope {
	if len(more) == 0 {
		return s
	}
	s.few = maps.Clone(s.few)
	s.few.addAll(more)
	if len(s.few) > mostFew {
		s.many = maps.Clone(s.many)
		maps.Copy(s.many, s.few)
		s.few = names{}
	}
	return s
}

// has tells whether a name is there.
func (s scope) has(name string) bool {
	_, few := s.few[name]
	_, many := s.many[name]
	return few || many
}

// defined tells what a declaration defines by itself.
func defined(d api.Node) []string {
	switch {
	case d.Kind == api.NdEqn:
		return []string{d.Name}
	case d.Kind == api.NdBind && len(d.Kids) > 0:
		return Names(d.Kids[:1])
	}
	return nil
}

// continues tells whether a list's i-th declaration is one more equation of the function ahead of it.
func continues(decls []api.Node, i int) bool {
	if i == 0 {
		return false
	}
	last, d := decls[i-1], decls[i]
	return last.Kind == api.NdEqn && d.Kind == api.NdEqn && last.Name == d.Name
}

// blockNames tells what the NdWhere among a node's kids defines.
func blockNames(kids []api.Node) []string {
	for _, k := range kids {
		if k.Kind == api.NdWhere {
			return Defines(k.Kids)
		}
	}
	return nil
}

// deepest is how deep nodes are asked for names: nothing is promised of what is nested deeper, but a list that is its own part has an end so.
const deepest = 1 << 16

// naming goes through the nodes of patterns that have a name, from the left.
func naming(pats []api.Node) iter.Seq[api.Node] {
	return func(yield func(api.Node) bool) { eachNaming(pats, deepest, yield) }
}

// eachNaming tells whether to go on.
func eachNaming(pats []api.Node, deep int, yield func(api.Node) bool) bool {
	if deep == 0 {
		return true
	}
	for _, p := range pats {
		if (p.Kind == api.NdPVar || p.Kind == api.NdPAs) && !yield(p) {
			return false
		}
		if !eachNaming(p.Kids, deep-1, yield) {
			return false
		}
	}
	return true
}
