package prep

import (
	"slices"

	"thunkmill/api"
)

// prepared is an expression that may be, prepared, with new names of all that is bound.
func prepared(e *api.Expr, in *scope, n *names) api.Expr {
	q := api.Expr{Kind: e.Kind, Name: e.Name, Num: e.Num}
	if e.Kind == api.ExVar {
		q.Name = in.of(e.Name)
	}
	in, q.Params = in.with(e.Params, n)
	in, own := in.with(boundBy(e.Binds), n)
	q.Binds = preparedBinds(e.Binds, own, in, n)
	q.Args = preparedArgs(e.Args, in, n)
	q.Alts = preparedAlts(e.Alts, in, n)
	return withAtoms(q, n)
}

func preparedBinds(l []api.Bind, own []string, in *scope, n *names) []api.Bind {
	q := slices.Clone(l)
	for i := range q {
		q[i] = api.Bind{Name: own[i], E: prepared(&l[i].E, in, n)}
	}
	return q
}

func preparedArgs(l []api.Expr, in *scope, n *names) []api.Expr {
	q := slices.Clone(l)
	for i := range q {
		q[i] = prepared(&l[i], in, n)
	}
	return q
}

func preparedAlts(l []api.Alt, in *scope, n *names) []api.Alt {
	q := slices.Clone(l)
	for i := range q {
		within, own := in.with(l[i].Vars, n)
		q[i].Vars, q[i].E = own, prepared(&l[i].E, within, n)
	}
	return q
}

// withAtoms is an expression whose parts are prepared, in a let of those of its Args that must be atoms, and are none.
func withAtoms(e api.Expr, n *names) api.Expr {
	var binds []api.Bind
	for i := atomsFrom(&e); i < len(e.Args); i++ {
		if !isAtom(&e.Args[i]) {
			b := api.Bind{Name: n.next(), E: e.Args[i]}
			binds = append(binds, b)
			e.Args[i] = api.Expr{Kind: api.ExVar, Name: b.Name}
		}
	}
	if len(binds) == 0 {
		return e
	}
	return api.Expr{Kind: api.ExLet, Binds: binds, Args: []api.Expr{e}}
}
