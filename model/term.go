package model

import (
	"thunkmill/api"
	"thunkmill/prim"
)

// term is an expression of which is known where each variable's cell stands.
type term interface {
	// eval makes the term's own step: what it comes to, or what is evaluated next for it.
	eval(r *run, env *frame) next
}

// variable is the i-th cell of the frame of a level.
type variable struct {
	level int
	i     int
}

func (v variable) eval(r *run, env *frame) next {
	return r.force(env.at(v.level).cell(v.i))
}

// literal is a number or a character.
type literal struct {
	value *value
}

func (l literal) eval(*run, *frame) next {
	return next{value: l.value}
}

// lambda is a function's expression.
type lambda struct {
	params int
	body   term
}

func (l *lambda) eval(_ *run, env *frame) next {
	return next{value: &value{kind: function, of: l, env: env}}
}

// holder is a constructor with its parts, or the primitive of an action with its arguments: none of them is evaluated.
type holder struct {
	kind  int // of the value
	name  string
	parts []term
}

func (h *holder) eval(_ *run, env *frame) next {
	return next{value: &value{kind: h.kind, name: h.name, parts: env.cellsOf(h.parts)}}
}

type application struct {
	function term
	args     []term
}

func (a *application) eval(r *run, env *frame) next {
	r.then(func(f *value) next { return r.apply(f, env.cellsOf(a.args)) })
	return next{e: a.function, env: env}
}

type let struct {
	binds []term
	body  term
}

func (l *let) eval(_ *run, env *frame) next {
	return next{e: l.body, env: env.binding(l.binds)}
}

// choice is a case.
type choice struct {
	of        term
	kind      int // of the values that the alternatives ask for
	fits      map[sign]branch
	otherwise *branch // nil, if there is none
}

// branch is an alternative's expression, and whether it has a frame of its own.
type branch struct {
	named bool
	e     term
}

func (c *choice) eval(r *run, env *frame) next {
	r.then(func(v *value) next { return c.choose(v, env) })
	return next{e: c.of, env: env}
}

func (c *choice) choose(v *value, env *frame) next {
	if b, there := c.fits[v.sign()]; there {
		return b.with(v.parts, env)
	}
	switch {
	case c.otherwise != nil:
		return c.otherwise.with([]*cell{full(v)}, env)
	case v.kind == c.kind:
		panic(failed("no match"))
	}
	panic(wrong(api.WrongCase))
}

func (b branch) with(cells []*cell, env *frame) next {
	if b.named {
		env = env.inner(cells)
	}
	return next{e: b.e, env: env}
}

// simple is a primitive of numbers and characters.
type simple struct {
	name  string
	takes []int // the kind of each argument
	args  []term
}

func (s *simple) eval(r *run, env *frame) next {
	return s.goOn(r, env, nil)
}

// goOn evaluates the argument behind those that are evaluated already; behind the last one the primitive has its value.
func (s *simple) goOn(r *run, env *frame, done []api.Prim) next {
	i := len(done)
	if i == len(s.args) {
		p, _ := prim.Apply(s.name, done)
		return simpleValue(p)
	}
	r.then(func(v *value) next {
		must(v, s.takes[i])
		return s.goOn(r, env, append(done, v.prim()))
	})
	return next{e: s.args[i], env: env}
}

func simpleValue(p api.Prim) next {
	switch p.Kind {
	case api.PrimError:
		panic(failed(p.Text))
	case api.PrimBool:
		return next{value: truth(p.Num == 1)}
	case api.PrimChar:
		return next{value: &value{kind: character, num: p.Num}}
	}
	return next{value: &value{kind: number, num: p.Num}}
}

// sequence is the primitive seq.
type sequence struct {
	first  term
	second term
}

func (s *sequence) eval(r *run, env *frame) next {
	r.then(func(*value) next { return next{e: s.second, env: env} })
	return next{e: s.first, env: env}
}

// showing is the primitive show.
type showing struct {
	of term
}

func (s *showing) eval(r *run, env *frame) next {
	r.then(func(v *value) next {
		must(v, number)
		return next{value: list(prim.Show(v.num))}
	})
	return next{e: s.of, env: env}
}

// failing is the primitive error.
type failing struct {
	text term
}

func (f *failing) eval(r *run, env *frame) next {
	r.then(func(v *value) next { return r.read(nil, v) })
	return next{e: f.text, env: env}
}
