package simpl

import (
	"thunkmill/api"
	"thunkmill/core"
)

const (
	maxSize = 20000 // how many expressions one may have
	maxDeep = 1000  // how deep they may be nested
)

// room is how many expressions more there may be.
type room struct {
	left int
}

// take tells whether there is room for an expression that may be nested so deep. It goes no further than it must: an expression's list may be among its own parts.
func (r *room) take(e *api.Expr, deep int) bool {
	if r.left == 0 || deep == 0 {
		return false
	}
	r.left--
	for i := range parts(e) {
		if !r.take(part(e, i), deep-1) {
			return false
		}
	}
	return true
}

func fits(e *api.Expr) bool {
	r := room{left: maxSize}
	return r.take(e, maxDeep)
}

// size is how many expressions there are in one that fits.
func size(e *api.Expr) int {
	r := room{left: maxSize}
	r.take(e, maxDeep)
	return maxSize - r.left
}

// check tells what is wrong with an expression: that it is too great or too deep, or not as core's table says.
func check(e *api.Expr) api.Errno {
	if !fits(e) {
		return api.ErrLong
	}
	// That constructors or variables are not there, core names behind what may not be.
	if core.CheckExpr(api.Prog{}, *e, nil) == api.ErrArg || !hasArguments(e) {
		return api.ErrArg
	}
	return api.OK
}

// hasArguments tells whether all primitives in an expression are there, with all their arguments.
func hasArguments(e *api.Expr) bool {
	if e.Kind == api.ExPrim && core.Arity(e.Name) != len(e.Args) {
		return false
	}
	for i := range parts(e) {
		if !hasArguments(part(e, i)) {
			return false
		}
	}
	return true
}
