package core

import (
	"maps"
	"slices"
	"strconv"

	"thunkmill/api"
)

func copied(e *api.Expr) api.Expr {
	c := *e
	c.Params = slices.Clone(e.Params)
	c.Binds = copiedBinds(e.Binds)
	c.Args = copiedExprs(e.Args)
	c.Alts = copiedAlts(e.Alts)
	return c
}

func copiedExprs(l []api.Expr) []api.Expr {
	l = slices.Clone(l)
	for i := range l {
		l[i] = copied(&l[i])
	}
	return l
}

func copiedBinds(l []api.Bind) []api.Bind {
	l = slices.Clone(l)
	for i := range l {
		l[i].E = copied(&l[i].E)
	}
	return l
}

func copiedAlts(l []api.Alt) []api.Alt {
	l = slices.Clone(l)
	for i := range l {
		l[i].Vars = slices.Clone(l[i].Vars)
		l[i].E = copied(&l[i].E)
	}
	return l
}

// subst puts an expression in the place of a name, in an expression that may be written.
type subst struct {
	name  string
	by    api.Expr
	room  int // how many expressions more there may be till copies are shared
	in    scope
	free  map[string]struct{} // in by
	taken map[string]struct{} // names that a new one must not be
	fresh map[string]int      // the number of the new name of each that is named otherwise
	last  int
}

func newSubst(e *api.Expr, name string, by *api.Expr) *subst {
	s := &subst{name: name, by: copied(by), room: api.MaxNodes - Size(*e), in: newScope(), free: freeIn(by), taken: namesIn(e), fresh: map[string]int{}}
	maps.Copy(s.taken, s.free)
	return s
}

// namesIn has all names of variables in an expression, bound and free.
func namesIn(e *api.Expr) map[string]struct{} {
	names := map[string]struct{}{}
	add := func(l ...string) {
		for _, name := range l {
			names[name] = struct{}{}
		}
	}
	allExpr(e, func(e *api.Expr) bool {
		if e.Kind == api.ExVar {
			add(e.Name)
		}
		add(e.Params...)
		add(boundBy(e.Binds)...)
		for i := range e.Alts {
			add(e.Alts[i].Vars...)
		}
		return true
	})
	return names
}

func (s *subst) expr(e *api.Expr) {
	outer := s.in.inner
	s.in.enter(e)
	s.rename(e.Params)
	s.binds(e.Binds)
	s.exprs(e.Args)
	s.alts(e.Alts)
	if e.Kind == api.ExVar {
		s.variable(e)
	}
	s.in.leave(outer)
}

func (s *subst) exprs(l []api.Expr) {
	for i := range l {
		s.expr(&l[i])
	}
}

func (s *subst) binds(l []api.Bind) {
	for i := range l {
		l[i].Name = s.renamed(l[i].Name)
		s.expr(&l[i].E)
	}
}

func (s *subst) alts(l []api.Alt) {
	for i := range l {
		outer := s.in.inner
		s.in.bindAll(l[i].Vars)
		s.rename(l[i].Vars)
		s.expr(&l[i].E)
		s.in.leave(outer)
	}
}

func (s *subst) variable(e *api.Expr) {
	switch {
	case s.in.has(e.Name):
		e.Name = s.renamed(e.Name)
	case e.Name == s.name:
		*e = s.placed()
	}
}

// placed is what stands in the name's place. Copies are shared once there are too many expressions: no memory could hold them all.
func (s *subst) placed() api.Expr {
	if s.room < 0 {
		return s.by
	}
	s.room -= Size(s.by)
	return copied(&s.by)
}

func (s *subst) rename(names []string) {
	for i, name := range names {
		names[i] = s.renamed(name)
	}
}

// renamed is what a bound name is called: a new name, if it would catch a free one.
func (s *subst) renamed(name string) string {
	if _, catches := s.free[name]; !catches {
		return name
	}
	if s.fresh[name] == 0 {
		s.fresh[name] = s.unused()
	}
	return numbered(s.fresh[name])
}

func (s *subst) unused() int {
	for {
		s.last++
		if _, there := s.taken[numbered(s.last)]; !there {
			return s.last
		}
	}
}

// numbered is a new name, made of a number alone: what is made of an old name could be too long.
func numbered(n int) string {
	return "v" + strconv.Itoa(n)
}
