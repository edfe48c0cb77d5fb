package model

import "thunkmill/api"

// performAll performs main, and all that it is made of, till the run ends.
func (r *run) performAll(main *cell) {
	act := r.value(main)
	for {
		// A step is taken to perform an action alone: what is none ends the run as it comes, without fuel too.
		if act.kind != action {
			panic(wrong(api.WrongAction))
		}
		r.step()
		if act.name == "bind" {
			r.later = append(r.later, act.parts[1])
			act = r.value(act.parts[0])
		} else {
			act = r.behind(r.perform(act))
		}
	}
}

func (r *run) value(c *cell) *value {
	return r.settle(r.force(c))
}

// behind is what is performed behind an action that came to a cell.
func (r *run) behind(c *cell) *value {
	last := len(r.later) - 1
	if last < 0 {
		panic(ending{kind: api.EndExit})
	}
	second := r.later[last]
	r.later[last] = nil
	r.later = r.later[:last]
	return r.settle(r.apply(r.value(second), []*cell{c}))
}

// perform performs an action that is no bind: what it comes to is a cell.
func (r *run) perform(act *value) *cell {
	switch act.name {
	case "ret":
		return act.parts[0]
	case "getc":
		return r.get()
	case "putc":
		return r.put(act.parts[0])
	case "eof":
		return r.atEnd()
	}
	r.exit(act.parts[0])
	return nil
}

func (r *run) get() *cell {
	c, what, _ := r.world.Get()
	switch what {
	case api.WorldByte:
		return full(char(c))
	case api.WorldEnd:
		panic(failed("end of input"))
	}
	panic(ending{kind: api.EndNeed})
}

func (r *run) put(c *cell) *cell {
	v := r.value(c)
	must(v, character)
	if e := r.world.Put(byte(v.num)); e != api.OK {
		panic(ending{kind: api.EndFull})
	}
	return full(&value{kind: constructor, name: "Unit"})
}

func (r *run) atEnd() *cell {
	what, _ := r.world.Eof()
	if what == api.WorldNeed {
		panic(ending{kind: api.EndNeed})
	}
	return full(truth(what == api.WorldEnd))
}

// exit ends the run. A number's lowest byte is its rest by 256, from 0 on, below 0 too.
func (r *run) exit(c *cell) {
	v := r.value(c)
	must(v, number)
	panic(ending{kind: api.EndExit, code: int(v.num & 255)})
}
