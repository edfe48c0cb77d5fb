package match

import (
	"strconv"

	"thunkmill/api"
	"thunkmill/core"
)

// asTold tells whether an expression is as core's table says, whatever its constructors and variables are.
func asTold(e *api.Expr, fits bool) bool {
	if fits {
		return mayBe(*e) && hasArguments(e)
	}
	// Core says of it only that it is too great: it is asked piece by piece.
	for piece := range once(e, inner) {
		if !ownAsTold(piece) {
			return false
		}
	}
	return true
}

// mayBe tells whether an expression that is neither too great nor too deep may be, whatever names and shapes it has.
func mayBe(e api.Expr) bool {
	return core.CheckExpr(api.Prog{}, e, nil) != api.ErrArg
}

// hasArguments tells whether all primitives in an expression are there, with all their arguments.
func hasArguments(e *api.Expr) bool {
	if !ownArguments(e) {
		return false
	}
	for part := range inner(e) {
		if !hasArguments(part) {
			return false
		}
	}
	return true
}

func ownArguments(e *api.Expr) bool {
	return e.Kind != api.ExPrim || core.Arity(e.Name) == len(e.Args)
}

// areNames tells whether all are names, none twice: as those of an alternative must be, which may have any number of them.
func areNames(l []string) bool {
	return len(l) == 0 || mayBe(choiceOf(api.Alt{Kind: api.AltCon, Name: "C", Vars: l}))
}

// choiceOf is a case of alternatives, with a number in the place of all expressions.
func choiceOf(l ...api.Alt) api.Expr {
	for i := range l {
		l[i].E = number()
	}
	return api.Expr{Kind: api.ExCase, Args: []api.Expr{number()}, Alts: l}
}

func number() api.Expr {
	return api.Expr{Kind: api.ExInt}
}

// ownAsTold asks an expression for its own fields, whatever stands in it.
func ownAsTold(e *api.Expr) bool {
	names := make([]string, len(e.Binds))
	for i := range e.Binds {
		names[i] = e.Binds[i].Name
	}
	return ownArguments(e) && mayBe(hollow(*e)) && areNames(names) && areAlike(e.Alts)
}

// hollow is an expression with a number in the place of what stands in it, and no more of that than counts for its own fields: an expression may have more arguments, bindings or alternatives than core looks at.
func hollow(e api.Expr) api.Expr {
	args := make([]api.Expr, min(len(e.Args), api.MaxParams+2))
	for i := range args {
		args[i] = number()
	}
	e.Args = args
	if len(e.Binds) > 0 {
		e.Binds = []api.Bind{{Name: e.Binds[0].Name, E: number()}}
	}
	if len(e.Alts) > 0 {
		e.Alts = choiceOf(e.Alts[0]).Alts
	}
	return e
}

// areAlike tells whether alternatives may stand together: each two that are neighbours, and all in that none is there twice.
func areAlike(l []api.Alt) bool {
	var keys []string
	for i, a := range l {
		if i > 0 && !mayBe(choiceOf(l[i-1], a)) {
			return false
		}
		switch a.Kind {
		case api.AltCon:
			keys = append(keys, a.Name)
		case api.AltInt, api.AltChar:
			keys = append(keys, strconv.FormatInt(a.Num, 10))
		}
	}
	return areNames(keys)
}
