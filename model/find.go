package model

import (
	"thunkmill/api"
	"thunkmill/prim"
)

// finder makes terms of expressions: it finds where each variable's cell stands.
type finder struct {
	level int // of the inner frame; the outermost one, the program's, is at 0
	named map[string][]variable
}

func newFinder() *finder {
	return &finder{level: -1, named: map[string][]variable{}}
}

// program makes the frame of a program's bindings, whose names are in scope from then on.
func (f *finder) program(p *api.Prog) *frame {
	f.enter(namesOf(p.Binds))
	var outermost *frame
	return outermost.binding(f.binds(p.Binds))
}

// enter goes into a scope of some names; leave goes out of it.
func (f *finder) enter(names []string) {
	f.level++
	for i, name := range names {
		f.named[name] = append(f.named[name], variable{level: f.level, i: i})
	}
}

func (f *finder) leave(names []string) {
	f.level--
	for _, name := range names {
		l := f.named[name]
		f.named[name] = l[:len(l)-1]
	}
}

func (f *finder) term(e *api.Expr) term {
	switch e.Kind {
	case api.ExVar:
		l := f.named[e.Name]
		return l[len(l)-1]
	case api.ExInt:
		return literal{&value{kind: number, num: e.Num}}
	case api.ExChar:
		return literal{&value{kind: character, num: e.Num}}
	case api.ExCon:
		return &holder{kind: constructor, name: e.Name, parts: f.terms(e.Args)}
	case api.ExLam:
		return &lambda{params: len(e.Params), body: f.within(e.Params, &e.Args[0])}
	case api.ExApp:
		return &application{function: f.term(&e.Args[0]), args: f.terms(e.Args[1:])}
	case api.ExLet:
		return f.let(e)
	case api.ExCase:
		return f.choice(e)
	}
	return f.primitive(e)
}

func (f *finder) terms(l []api.Expr) []term {
	terms := make([]term, len(l))
	for i := range l {
		terms[i] = f.term(&l[i])
	}
	return terms
}

func (f *finder) binds(l []api.Bind) []term {
	terms := make([]term, len(l))
	for i := range l {
		terms[i] = f.term(&l[i].E)
	}
	return terms
}

// within makes the term of an expression in a scope of some names.
func (f *finder) within(names []string, e *api.Expr) term {
	f.enter(names)
	defer f.leave(names)
	return f.term(e)
}

func (f *finder) let(e *api.Expr) term {
	names := namesOf(e.Binds)
	f.enter(names)
	defer f.leave(names)
	return &let{binds: f.binds(e.Binds), body: f.term(&e.Args[0])}
}

func (f *finder) choice(e *api.Expr) term {
	c := &choice{of: f.term(&e.Args[0]), fits: map[sign]branch{}}
	for i := range e.Alts {
		a := &e.Alts[i]
		b := f.branch(a)
		if a.Kind == api.AltElse {
			c.otherwise = &b
			continue
		}
		c.kind = kindOf(a)
		c.fits[sign{kind: c.kind, num: a.Num, name: a.Name}] = b
	}
	return c
}

func (f *finder) branch(a *api.Alt) branch {
	if len(a.Vars) == 0 {
		return branch{e: f.term(&a.E)}
	}
	return branch{named: true, e: f.within(a.Vars, &a.E)}
}

func (f *finder) primitive(e *api.Expr) term {
	args := f.terms(e.Args)
	switch {
	case prim.Simple(e.Name):
		return &simple{name: e.Name, takes: takenBy(e.Name, len(args)), args: args}
	case e.Name == "seq":
		return &sequence{first: args[0], second: args[1]}
	case e.Name == "show":
		return &showing{of: args[0]}
	case e.Name == "error":
		return &failing{text: args[0]}
	}
	return &holder{kind: action, name: e.Name, parts: args}
}

// takenBy are the kinds of values that a primitive takes.
func takenBy(name string, n int) []int {
	kinds := make([]int, n)
	for i := range kinds {
		kinds[i] = number
		if prim.Takes(name, i) == api.PrimChar {
			kinds[i] = character
		}
	}
	return kinds
}

// kindOf is the kind of values that an alternative asks for.
func kindOf(a *api.Alt) int {
	switch a.Kind {
	case api.AltInt:
		return number
	case api.AltChar:
		return character
	}
	return constructor
}

func namesOf(l []api.Bind) []string {
	names := make([]string, len(l))
	for i := range l {
		names[i] = l[i].Name
	}
	return names
}
