package model

// cell holds a value, or an expression that is still to be evaluated, with its environment, or, while that is being evaluated, nothing.
type cell struct {
	value *value
	e     term
	env   *frame
}

// full is a cell that has its value already.
func full(v *value) *cell {
	return &cell{value: v}
}

// frame has the cells of the names of one scope. An environment is the frame of the inner one, with those around it.
type frame struct {
	level int
	outer *frame
	far   *frame // some frames further out, so that one far out is not come to frame by frame
	cells []*cell
	binds []term        // of a let instead of cells: a let may have many bindings, and a step is not to take long, so their cells are made when they are asked for
	made  map[int]*cell // of binds
}

// inner is a frame within another one, or, of nil, the outermost one.
func (f *frame) inner(cells []*cell) *frame {
	if f == nil {
		return &frame{cells: cells}
	}
	// A frame that is as far out as two equal leaps go is one leap away, else the next one is: so any frame is a few leaps away.
	in := &frame{level: f.level + 1, outer: f, far: f, cells: cells}
	if f.far != nil && f.far.far != nil && f.level-f.far.level == f.far.level-f.far.far.level {
		in.far = f.far.far
	}
	return in
}

// binding is a frame within another one, of bindings that see one another.
func (f *frame) binding(l []term) *frame {
	in := f.inner(nil)
	in.binds, in.made = l, map[int]*cell{}
	return in
}

// at is the frame of a level that is around this one, or itself.
func (f *frame) at(level int) *frame {
	for f.level > level {
		if f.far.level >= level {
			f = f.far
		} else {
			f = f.outer
		}
	}
	return f
}

// cell is the cell of one of the frame's names.
func (f *frame) cell(i int) *cell {
	if f.binds == nil {
		return f.cells[i]
	}
	c, there := f.made[i]
	if !there {
		c = &cell{e: f.binds[i], env: f}
		f.made[i] = c
	}
	return c
}

// cellOf is the cell of an argument or a part: a variable's own one, else a new one.
func (f *frame) cellOf(t term) *cell {
	if v, ok := t.(variable); ok {
		return f.at(v.level).cell(v.i)
	}
	return &cell{e: t, env: f}
}

func (f *frame) cellsOf(l []term) []*cell {
	cells := make([]*cell, len(l))
	for i, t := range l {
		cells[i] = f.cellOf(t)
	}
	return cells
}
