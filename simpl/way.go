package simpl

import "thunkmill/api"

// parts is how many expressions stand in one, not counting what stands in these.
func parts(e *api.Expr) int { return len(e.Binds) + len(e.Args) + len(e.Alts) }

// part is the i-th of them, by their positions.
func part(e *api.Expr, i int) *api.Expr {
	if i < len(e.Binds) {
		return &e.Binds[i].E
	}
	i -= len(e.Binds)
	if i < len(e.Args) {
		return &e.Args[i]
	}
	return &e.Alts[i-len(e.Args)].E
}

// way leads from the whole, at position 0, to the expression at a position: each stands in the one ahead of it.
type way []stop

// stop is an expression on a way, and which of its parts comes next, once the way leads no longer into one of them.
type stop struct {
	e    *api.Expr
	next int
}

// on goes on to the next position. Behind the last one the way is empty.
func (w *way) on() {
	for len(*w) > 0 {
		last := &(*w)[len(*w)-1]
		if last.next < parts(last.e) {
			last.next++
			*w = append(*w, stop{e: part(last.e, last.next-1)})
			return
		}
		*w = (*w)[:len(*w)-1]
	}
}

// goTo goes from position 0 to another one, and tells whether there is one.
func (w *way) goTo(at int) bool {
	for ; at > 0 && len(*w) > 0; at-- {
		w.on()
	}
	return at == 0 && len(*w) > 0
}
