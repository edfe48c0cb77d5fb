package prep

import (
	"thunkmill/api"
	"thunkmill/prim"
)

func isAtom(e *api.Expr) bool {
	switch e.Kind {
	case api.ExVar, api.ExInt, api.ExChar:
		return true
	}
	return false
}

// atomsFrom tells from which of an expression's Args on all must be atoms.
func atomsFrom(e *api.Expr) int {
	switch e.Kind {
	case api.ExCon:
		return 0
	case api.ExApp:
		return 1
	case api.ExPrim:
		return prim.Strict(e.Name) // of none that there is -1: all
	}
	return len(e.Args)
}

// isNormal tells whether an expression is prepared, one that may not be by those of its parts that its kind has.
func isNormal(e *api.Expr) bool {
	switch e.Kind {
	case api.ExVar, api.ExInt, api.ExChar:
		return true
	case api.ExLam, api.ExCon, api.ExApp, api.ExPrim:
		return areNormalArgs(e)
	case api.ExLet, api.ExCase:
		return areNormalBinds(e.Binds) && areNormalArgs(e) && areNormalAlts(e.Alts)
	}
	return false
}

func areNormalArgs(e *api.Expr) bool {
	from := atomsFrom(e)
	for i := range e.Args {
		if i >= from && !isAtom(&e.Args[i]) || !isNormal(&e.Args[i]) {
			return false
		}
	}
	return true
}

func areNormalBinds(l []api.Bind) bool {
	for i := range l {
		if !isNormal(&l[i].E) {
			return false
		}
	}
	return true
}

func areNormalAlts(l []api.Alt) bool {
	for i := range l {
		if !isNormal(&l[i].E) {
			return false
		}
	}
	return true
}
