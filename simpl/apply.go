package simpl

import (
	"slices"

	"thunkmill/api"
)

// isApplied tells whether an expression is an application of one of a kind.
func isApplied(e *api.Expr, kind int) bool {
	return e.Kind == api.ExApp && e.Args[0].Kind == kind
}

func applied(f api.Expr, args []api.Expr) api.Expr {
	return api.Expr{Kind: api.ExApp, Args: slices.Concat([]api.Expr{f}, args)}
}

func (t *tree) isCall(e *api.Expr) bool {
	return isApplied(e, api.ExLam) && len(e.Args[0].Params) < len(e.Args)
}

func (t *tree) called(e *api.Expr) api.Expr {
	f, args := &e.Args[0], e.Args[1:]
	n := len(f.Params)
	t.bare(&f.Args[0])
	body := t.letOf(f.Params, args, f.Args[0])
	if len(args) == n {
		return body
	}
	return applied(body, args[n:])
}

func (t *tree) isLetApplied(e *api.Expr) bool { return isApplied(e, api.ExLet) }

func (t *tree) appliedWithin(e *api.Expr) api.Expr {
	f := &e.Args[0]
	return let(f.Binds, applied(f.Args[0], e.Args[1:]))
}

func (t *tree) isAppliedTwice(e *api.Expr) bool {
	return isApplied(e, api.ExApp) && len(e.Args[0].Args)-1+len(e.Args)-1 <= api.MaxParams
}

func (t *tree) appliedAtOnce(e *api.Expr) api.Expr {
	f := &e.Args[0]
	return applied(f.Args[0], slices.Concat(f.Args[1:], e.Args[1:]))
}
