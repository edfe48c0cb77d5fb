package core

import "thunkmill/api"

// allExpr tells whether ok holds of an expression and of all that are in it.
func allExpr(e *api.Expr, ok func(e *api.Expr) bool) bool {
	return ok(e) && allBinds(e.Binds, ok) && allExprs(e.Args, ok) && allAlts(e.Alts, ok)
}

func allExprs(l []api.Expr, ok func(e *api.Expr) bool) bool {
	for i := range l {
		if !allExpr(&l[i], ok) {
			return false
		}
	}
	return true
}

func allBinds(l []api.Bind, ok func(e *api.Expr) bool) bool {
	for i := range l {
		if !allExpr(&l[i].E, ok) {
			return false
		}
	}
	return true
}

func allAlts(l []api.Alt, ok func(e *api.Expr) bool) bool {
	for i := range l {
		if !allExpr(&l[i].E, ok) {
			return false
		}
	}
	return true
}
