package lift

import (
	"cmp"
	"slices"

	"thunkmill/api"
	"thunkmill/prep"
)

// called is another name for what is bound.
type called struct {
	name string
}

// renamed tells which names are others.
type renamed map[string]called

// lifter gathers a lifted program's Binds.
type lifter struct {
	*plan
	binds []api.Bind
	new   *names
	other renamed // bound names that are names of new Binds
}

// lifted is a prepared program, lifted by a plan.
func lifted(p api.Prog, by *plan) api.Prog {
	l := newLifter(p, by)
	for i := range p.Binds {
		l.bind(p.Binds[i].Name, l.expr(&p.Binds[i].E, nil))
	}
	slices.SortFunc(l.binds, func(a, b api.Bind) int { return cmp.Compare(a.Name, b.Name) })
	return api.Prog{Cons: slices.Clone(p.Cons), Binds: l.binds}
}

func newLifter(p api.Prog, by *plan) *lifter {
	l := &lifter{plan: by, new: newNames("v"), other: renamed{}}
	bound := prep.Names(p)
	for i := range p.Binds {
		l.new.take(p.Binds[i].Name)
	}
	for _, name := range bound {
		l.new.take(name)
	}
	for _, name := range bound {
		if by.binds.made(name) {
			l.other[name] = called{l.new.next()}
		}
	}
	return l
}

func (l *lifter) bind(name string, e api.Expr) {
	l.binds = append(l.binds, api.Bind{Name: name, E: e})
}

// gather takes a function that is lifted: its free variables are its first arguments.
func (l *lifter) gather(f function, e *api.Expr) {
	own := renamed{}
	var first []string
	for i, name := range f.free {
		first = append(first, l.new.next())
		own[name] = called{first[i]}
	}
	q := l.expr(e, own)
	q.Params = append(first, q.Params...)
	l.bind(f.name, q)
}

// expr is what becomes of an expression, in which names that are bound around it may be others.
func (l *lifter) expr(e *api.Expr, in renamed) api.Expr {
	if l.lifts(e) {
		for i := range e.Binds {
			f, _ := l.of(e.Binds[i].Name)
			l.gather(f, &e.Binds[i].E)
		}
		return l.expr(&e.Args[0], in)
	}
	q := api.Expr{Kind: e.Kind, Name: e.Name, Num: e.Num, Params: l.boundNames(e.Params)}
	if e.Kind == api.ExVar {
		q.Name = l.name(e.Name, in)
	}
	for i := range e.Binds {
		q.Binds = append(q.Binds, api.Bind{Name: l.name(e.Binds[i].Name, nil), E: l.expr(&e.Binds[i].E, in)})
	}
	q.Args = l.args(e, in)
	for i := range e.Alts {
		a := e.Alts[i]
		a.Vars, a.E = l.boundNames(a.Vars), l.expr(&e.Alts[i].E, in)
		q.Alts = append(q.Alts, a)
	}
	return q
}

// args are an expression's, with a lifted function's free variables ahead of the others, if it is called here.
func (l *lifter) args(e *api.Expr, in renamed) []api.Expr {
	q := slices.Clone(e.Args)
	for i := range q {
		q[i] = l.expr(&e.Args[i], in)
	}
	f, ok := l.callee(e, in)
	if !ok {
		return q
	}
	q[0].Name = f.name
	var first []api.Expr
	for _, name := range f.free {
		first = append(first, api.Expr{Kind: api.ExVar, Name: l.name(name, in)})
	}
	return slices.Insert(q, 1, first...)
}

// callee is the lifted function that an expression applies. One that is itself a free variable of what it stands in comes from there.
func (l *lifter) callee(e *api.Expr, in renamed) (function, bool) {
	name, ok := l.applied(e)
	if _, handed := in[name]; handed || !ok {
		return function{}, false
	}
	return l.of(name)
}

// name is what a name is called in an expression.
func (l *lifter) name(name string, in renamed) string {
	if c, there := in[name]; there {
		return c.name
	}
	if c, there := l.other[name]; there {
		return c.name
	}
	return name
}

func (l *lifter) boundNames(names []string) []string {
	q := slices.Clone(names)
	for i := range q {
		q[i] = l.name(q[i], nil)
	}
	return q
}
