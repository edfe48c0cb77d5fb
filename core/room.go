package core

import "thunkmill/api"

// room is how many expressions more there may be.
type room struct {
	left int
}

func fits(e *api.Expr) bool {
	r := room{left: api.MaxNodes}
	return r.expr(e, api.MaxNest)
}

func programFits(p *api.Prog) bool {
	r := room{left: api.MaxNodes}
	return r.binds(p.Binds, api.MaxNest)
}

// expr tells whether there is room for an expression that may be nested so deep. It goes no further than it must: an expression's list may be among its own parts.
func (r *room) expr(e *api.Expr, deep int) bool {
	if r.left == 0 || deep == 0 {
		return false
	}
	r.left--
	return r.binds(e.Binds, deep-1) && r.exprs(e.Args, deep-1) && r.alts(e.Alts, deep-1)
}

func (r *room) exprs(l []api.Expr, deep int) bool {
	for i := range l {
		if !r.expr(&l[i], deep) {
			return false
		}
	}
	return true
}

func (r *room) binds(l []api.Bind, deep int) bool {
	for i := range l {
		if !r.expr(&l[i].E, deep) {
			return false
		}
	}
	return true
}

func (r *room) alts(l []api.Alt, deep int) bool {
	for i := range l {
		if !r.expr(&l[i].E, deep) {
			return false
		}
	}
	return true
}
