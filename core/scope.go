package core

import "thunkmill/api"

// frame is a bound name. Its level tells how many frames there are up to it, so that two of one level, bound side by side in two expressions, are known for each other.
type frame struct {
	name   string
	level  int
	hidden *frame // the frame whose name it hides, if there is one
	outer  *frame
}

// scope is the frames around a place, the inner one first. The inner one of each name is kept beside them: to go from frame to frame for each variable would take too long in great expressions.
type scope struct {
	inner *frame
	named map[string]*frame
}

func newScope() scope {
	return scope{named: map[string]*frame{}}
}

func (s *scope) bind(name string) {
	f := &frame{name: name, level: 1, hidden: s.named[name], outer: s.inner}
	if f.outer != nil {
		f.level += f.outer.level
	}
	s.inner, s.named[name] = f, f
}

func (s *scope) bindAll(names []string) {
	for _, name := range names {
		s.bind(name)
	}
}

// enter binds what an expression binds in all of it, whatever its kind.
func (s *scope) enter(e *api.Expr) {
	s.bindAll(e.Params)
	for i := range e.Binds {
		s.bind(e.Binds[i].Name)
	}
}

// leave goes back to the frame that was the inner one ahead.
func (s *scope) leave(to *frame) {
	for s.inner != to {
		f := s.inner
		s.inner, s.named[f.name] = f.outer, f.hidden
	}
}

// level is the level of what a name stands for; 0, if it is in no scope.
func (s *scope) level(name string) int {
	f := s.named[name]
	if f == nil {
		return 0
	}
	return f.level
}

func (s *scope) has(name string) bool {
	return s.named[name] != nil
}

// seeker finds variables that are in no scope.
type seeker struct {
	in    scope
	found map[string]struct{}
}

func newSeeker() *seeker {
	return &seeker{in: newScope(), found: map[string]struct{}{}}
}

func freeIn(e *api.Expr) map[string]struct{} {
	s := newSeeker()
	s.expr(e)
	return s.found
}

func (s *seeker) expr(e *api.Expr) {
	outer := s.in.inner
	s.in.enter(e)
	if e.Kind == api.ExVar && !s.in.has(e.Name) {
		s.found[e.Name] = struct{}{}
	}
	s.binds(e.Binds)
	for i := range e.Args {
		s.expr(&e.Args[i])
	}
	s.alts(e.Alts)
	s.in.leave(outer)
}

func (s *seeker) binds(l []api.Bind) {
	for i := range l {
		s.expr(&l[i].E)
	}
}

func (s *seeker) alts(l []api.Alt) {
	for i := range l {
		outer := s.in.inner
		s.in.bindAll(l[i].Vars)
		s.expr(&l[i].E)
		s.in.leave(outer)
	}
}
