package model

import (
	"slices"

	"thunkmill/api"
	"thunkmill/world"
)

// run is a run, or an evaluation, that goes on. What is still to be done is kept in lists, not in calls within calls: it may be nested as deep as there is fuel.
type run struct {
	world *world.World
	fuel  int
	steps int
	rest  []func(v *value) next // what is to be done in evaluating, each with the value that comes, the last one first
	later []*cell               // the second parts of the binds whose first ones are being performed
}

// next is what comes next: a value that is there, or, without one, an expression that is to be evaluated in an environment.
type next struct {
	value *value
	e     term
	env   *frame
}

func newRun(fuel int) *run {
	return &run{world: world.New(), fuel: fuel}
}

func (r *run) feed(input []byte, ended bool) api.Errno {
	if e := r.world.Feed(input); e != api.OK || !ended {
		return e
	}
	return r.world.End()
}

func (r *run) step() {
	if r.steps == r.fuel {
		panic(ending{kind: api.EndFuel})
	}
	r.steps++
}

func (r *run) then(do func(v *value) next) {
	r.rest = append(r.rest, do)
}

func (r *run) pop() func(v *value) next {
	last := len(r.rest) - 1
	do := r.rest[last]
	r.rest[last] = nil // what it holds may be a great deal
	r.rest = r.rest[:last]
	return do
}

// settle goes on till there is a value with which nothing is left to be done.
func (r *run) settle(n next) *value {
	for {
		switch {
		case n.value == nil:
			r.step()
			n = n.e.eval(r, n.env)
		case len(r.rest) > 0:
			n = r.pop()(n.value)
		default:
			return n.value
		}
	}
}

// force evaluates a cell, if it has no value yet.
func (r *run) force(c *cell) next {
	if c.value != nil {
		return next{value: c.value}
	}
	if c.e == nil {
		panic(ending{kind: api.EndLoop})
	}
	n := next{e: c.e, env: c.env}
	c.e, c.env = nil, nil
	r.then(func(v *value) next {
		c.value = v
		return next{value: v}
	})
	return n
}

// apply applies a function to arguments, behind those that it has already.
func (r *run) apply(f *value, args []*cell) next {
	if f.kind != function {
		panic(wrong(api.WrongApply))
	}
	all := slices.Concat(f.parts, args)
	n := f.of.params
	if len(all) < n {
		return next{value: &value{kind: function, parts: all, of: f.of, env: f.env}}
	}
	if len(all) > n {
		r.then(func(g *value) next { return r.apply(g, all[n:]) })
	}
	return next{e: f.of.body, env: f.env.inner(all[:n])}
}

// read reads a text to its end, to tell it as an error; so much of it is read already.
func (r *run) read(text []byte, v *value) next {
	if v.kind == constructor && v.name == "Nil" {
		panic(failed(string(text)))
	}
	if v.kind != constructor || v.name != "Cons" {
		panic(wrong(api.WrongPrim))
	}
	r.then(func(c *value) next { return r.readOn(text, c, v.parts[1]) })
	return r.force(v.parts[0])
}

// readOn reads a character, and the rest, if there may be more.
func (r *run) readOn(text []byte, c *value, rest *cell) next {
	must(c, character)
	text = append(text, byte(c.num))
	if len(text) == api.MaxMessage {
		panic(failed(string(text)))
	}
	r.then(func(v *value) next { return r.read(text, v) })
	return r.force(rest)
}

// must ends the run, if a value is of another kind than a primitive takes.
func must(v *value, kind int) {
	if v.kind != kind {
		panic(wrong(api.WrongPrim))
	}
}
