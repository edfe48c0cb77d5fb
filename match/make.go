package match

import (
	"slices"
	"strconv"

	"thunkmill/api"
	"thunkmill/core"
	"thunkmill/scope"
)

// comes makes at a place what comes, if all that was asked ahead of it fits, and tells what is left to be made. It calls none of that itself: calls would be nested as deep as what they make.
type comes func(at *api.Expr) rest

// rest makes some of what is left, and tells what is left then; nil is nothing.
type rest func() rest

// at leaves what comes to be made at a place.
func (c comes) at(place *api.Expr) rest {
	return func() rest { return c(place) }
}

// maker makes patterns against variables.
type maker struct {
	fresh *fresh
	ok    api.Expr            // what comes behind all patterns: new memory, which stands in what is made once
	free  map[string]struct{} // in ok; nil till it is asked for
	no    func() api.Expr     // what comes if one does not fit, each time in new memory
}

// made is patterns against variables, all of it.
func (m *maker) made(pats []api.Node, vars []string) api.Expr {
	var e api.Expr
	last := func(at *api.Expr) rest { *at = m.ok; return nil }
	for left := m.row(pats, vars, last).at(&e); left != nil; {
		left = left()
	}
	return e
}

// row makes patterns against variables, from the left: each is what comes if the one ahead of it fits.
func (m *maker) row(pats []api.Node, vars []string, ok comes) comes {
	for i := range slices.Backward(pats) {
		ok = m.against(&pats[i], vars[i], ok)
	}
	return ok
}

func (m *maker) against(p *api.Node, v string, ok comes) comes {
	switch p.Kind {
	case api.NdPVar:
		return named(p.Name, v, ok)
	case api.NdPAs:
		return named(p.Name, v, m.against(&p.Kids[0], v, ok))
	case api.NdPInt:
		return m.literal(api.AltInt, p.Num, v, ok)
	case api.NdPChar:
		return m.literal(api.AltChar, p.Num, v, ok)
	case api.NdPString:
		return m.list(characters(p.Name), v, ok)
	case api.NdPList:
		return m.list(p.Kids, v, ok)
	case api.NdPCon, api.NdPTuple:
		return m.constructor(constructorOf(p), p.Kids, v, ok)
	case api.NdPLazy:
		return m.lazy(p.Kids[:1], v, ok)
	}
	return ok // NdPAny asks for nothing
}

// named gives a variable one more name.
func named(name, v string, ok comes) comes {
	return func(at *api.Expr) rest {
		return ok.at(let(at, api.Bind{Name: name, E: variable(v)}))
	}
}

func (m *maker) literal(kind int, num int64, v string, ok comes) comes {
	return func(at *api.Expr) rest {
		return ok.at(m.choice(at, v, api.Alt{Kind: kind, Num: num}))
	}
}

func (m *maker) constructor(name string, pats []api.Node, v string, ok comes) comes {
	return func(at *api.Expr) rest {
		vars := m.fresh.several(len(pats))
		fits := m.choice(at, v, api.Alt{Kind: api.AltCon, Name: name, Vars: vars})
		return m.row(pats, vars, ok).at(fits)
	}
}

func (m *maker) list(pats []api.Node, v string, ok comes) comes {
	if len(pats) == 0 {
		return m.constructor("Nil", nil, v, ok)
	}
	tail := api.Node{Kind: api.NdPList, Kids: pats[1:]}
	return m.constructor("Cons", []api.Node{pats[0], tail}, v, ok)
}

// lazy makes a pattern (one alone in its list) that is asked only where a name of it is. Names of which ok knows nothing are left out: since no name is bound twice, those that are free in what comes next are those that are free in what comes at last.
func (m *maker) lazy(p []api.Node, v string, ok comes) comes {
	names := scope.Names(p)
	if !slices.ContainsFunc(names, m.isFree) {
		return ok
	}
	return func(at *api.Expr) rest {
		var binds []api.Bind
		for i, name := range names {
			if m.isFree(name) {
				binds = append(binds, api.Bind{Name: name, E: m.part(p, i, v)})
			}
		}
		return ok.at(let(at, binds...))
	}
}

// part is what the i-th name of a lazy pattern stands for.
func (m *maker) part(p []api.Node, i int, v string) api.Expr {
	p = m.fresh.renamed(p)
	inner := maker{fresh: m.fresh, ok: variable(scope.Names(p)[i]), no: Failure}
	return inner.made(p, []string{v})
}

func (m *maker) isFree(name string) bool {
	if m.free == nil {
		m.free = setOf(core.Free(m.ok))
	}
	_, free := m.free[name]
	return free
}

// choice puts a case of a variable at a place, and tells where to make what comes if the alternative fits.
func (m *maker) choice(at *api.Expr, v string, fits api.Alt) *api.Expr {
	alts := []api.Alt{fits, {Kind: api.AltElse, E: m.no()}}
	*at = api.Expr{Kind: api.ExCase, Args: []api.Expr{variable(v)}, Alts: alts}
	return &alts[0].E
}

// let puts bindings at a place, and tells where to make what they stand in.
func let(at *api.Expr, binds ...api.Bind) *api.Expr {
	body := make([]api.Expr, 1)
	*at = api.Expr{Kind: api.ExLet, Binds: binds, Args: body}
	return &body[0]
}

func variable(name string) api.Expr {
	return api.Expr{Kind: api.ExVar, Name: name}
}

// constructorOf tells the name that the constructor of an NdPCon or NdPTuple has in the core.
func constructorOf(p *api.Node) string {
	switch {
	case p.Kind == api.NdPTuple:
		return "Tup" + strconv.Itoa(len(p.Kids))
	case p.Name == ":":
		return "Cons"
	}
	return p.Name
}

func characters(s string) []api.Node {
	l := make([]api.Node, len(s))
	for i := range len(s) {
		l[i] = api.Node{Kind: api.NdPChar, Num: int64(s[i])}
	}
	return l
}

// rowsAgainst makes rows from the last one on: each is what comes if the one ahead of it does not fit.
func rowsAgainst(vars []string, l []api.Row, names *fresh) api.Expr {
	e := Failure()
	for i := range slices.Backward(l) {
		no := variable(names.one())
		m := maker{fresh: names, ok: core.Subst(l[i].E, failed, no), no: func() api.Expr { return no }}
		var first api.Expr
		body := let(&first, api.Bind{Name: no.Name, E: e})
		*body = m.made(l[i].Pats, vars)
		e = first
	}
	return e
}
