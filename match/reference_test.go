package match_test

import (
	"slices"
	"strconv"

	"thunkmill/api"
	"thunkmill/core"
	"thunkmill/syntax"
	"thunkmill/testkit"
)

// The reference makes expressions of expressions, the last one first, word by word as the chapter tells it. Its fresh names are such as stand in no test.

type reference struct {
	last int
}

func (r *reference) fresh() string {
	r.last++
	return "<fresh>" + strconv.Itoa(r.last)
}

func letIn(name string, e, body api.Expr) api.Expr {
	return api.Expr{Kind: api.ExLet, Binds: []api.Bind{{Name: name, E: e}}, Args: []api.Expr{body}}
}

func choose(v string, a api.Alt, no api.Expr) api.Expr {
	return api.Expr{Kind: api.ExCase, Args: []api.Expr{variable(v)}, Alts: []api.Alt{a, {Kind: api.AltElse, E: no}}}
}

func (r *reference) pattern(p api.Node, v string, ok, no api.Expr) api.Expr {
	switch p.Kind {
	case api.NdPVar:
		return letIn(p.Name, variable(v), ok)
	case api.NdPAny:
		return ok
	case api.NdPAs:
		return letIn(p.Name, variable(v), r.pattern(p.Kids[0], v, ok, no))
	case api.NdPInt:
		return choose(v, api.Alt{Kind: api.AltInt, Num: p.Num, E: ok}, no)
	case api.NdPChar:
		return choose(v, api.Alt{Kind: api.AltChar, Num: p.Num, E: ok}, no)
	case api.NdPLazy:
		return r.lazy(p.Kids[0], v, ok)
	}
	name, parts := constructor(p)
	vars := make([]string, len(parts))
	for i := range vars {
		vars[i] = r.fresh()
	}
	for i := len(parts) - 1; i >= 0; i-- {
		ok = r.pattern(parts[i], vars[i], ok, no)
	}
	return choose(v, api.Alt{Kind: api.AltCon, Name: name, Vars: vars, E: ok}, no)
}

// constructor is that of a pattern, lists being Cons and Nil, with its parts.
func constructor(p api.Node) (string, []api.Node) {
	switch {
	case p.Kind == api.NdPString && p.Name != "":
		return "Cons", []api.Node{{Kind: api.NdPChar, Num: int64(p.Name[0])}, named(api.NdPString, p.Name[1:])}
	case p.Kind == api.NdPList && len(p.Kids) > 0:
		return "Cons", []api.Node{p.Kids[0], node(api.NdPList, p.Kids[1:]...)}
	case p.Kind == api.NdPString || p.Kind == api.NdPList:
		return "Nil", nil
	case p.Kind == api.NdPTuple:
		return "Tup" + strconv.Itoa(len(p.Kids)), p.Kids
	case p.Name == ":":
		return "Cons", p.Kids
	}
	return p.Name, p.Kids
}

func (r *reference) lazy(p api.Node, v string, ok api.Expr) api.Expr {
	var binds []api.Bind
	for _, x := range namesOf(p) {
		if !slices.Contains(core.Free(ok), x) {
			continue
		}
		q, fresh := testkit.Copied(p), ""
		testkit.Each(&q, func(n *api.Node) {
			if n.Kind == api.NdPVar || n.Kind == api.NdPAs {
				old := n.Name
				n.Name = r.fresh()
				if old == x {
					fresh = n.Name
				}
			}
		})
		binds = append(binds, api.Bind{Name: x, E: r.pattern(q, v, variable(fresh), failure())})
	}
	if len(binds) == 0 {
		return ok
	}
	return api.Expr{Kind: api.ExLet, Binds: binds, Args: []api.Expr{ok}}
}

func (r *reference) rows(vars []string, l []api.Row) api.Expr {
	if len(l) == 0 {
		return failure()
	}
	no := variable(r.fresh())
	e := core.Subst(l[0].E, "%no", no)
	for i := len(vars) - 1; i >= 0; i-- {
		e = r.pattern(l[0].Pats[i], vars[i], e, no)
	}
	return letIn(no.Name, r.rows(vars, l[1:]), e)
}

func (r *reference) function(l []api.Row) api.Expr {
	var params []string
	for range l[0].Pats {
		params = append(params, r.fresh())
	}
	return api.Expr{Kind: api.ExLam, Params: params, Args: []api.Expr{r.rows(params, l)}}
}

// nodesOf are a tree's nodes.
func nodesOf(p api.Node) []api.Node {
	var l []api.Node
	testkit.Each(&p, func(n *api.Node) { l = append(l, *n) })
	return l
}

func namesOf(pats ...api.Node) []string {
	var names []string
	for _, n := range nodesOf(node(0, pats...)) {
		if n.Kind == api.NdPVar || n.Kind == api.NdPAs {
			names = append(names, n.Name)
		}
	}
	return names
}

func hasTwice(l []string) bool {
	l = slices.Sorted(slices.Values(l))
	return len(slices.Compact(l)) < len(l)
}

// told is what a test knows of an expression: whether it is as core's table says, and whether it is too great or too deep.
type told struct {
	e             api.Expr
	asTold, great bool
}

// refusal is Pattern's error: the first of all that apply. Of no it is handed its variable, empty where it is the failure, and whether it is one of both.
func refusal(l []api.Con, p api.Node, v string, ok told, no string, noFine bool) api.Errno {
	if e := syntax.Check(p); e != api.OK {
		return e
	}
	arg := p.Kind < api.NdPVar || v == "" || v == "a b" || !noFine || !ok.asTold || slices.Contains(namesOf(p), v) || slices.Contains(namesOf(p), no)
	scope, shape := hasTwice(namesOf(p)), false
	for _, n := range nodesOf(p) {
		arg = arg || n.Kind == api.NdPOps
		if n.Kind != api.NdPCon && n.Kind != api.NdPTuple {
			continue
		}
		name, parts := constructor(n)
		i := slices.IndexFunc(l, func(c api.Con) bool { return c.Name == name })
		scope = scope || i < 0
		shape = shape || i >= 0 && l[i].Arity != len(parts)
	}
	for _, x := range []struct {
		applies bool
		e       api.Errno
	}{{arg, api.ErrArg}, {scope, api.ErrScope}, {shape, api.ErrShape}, {ok.great, api.ErrLong}} {
		if x.applies {
			return x.e
		}
	}
	return api.OK
}

// refusalOfRows is that of Rows; vars is nil for those of a function, which are fresh.
func refusalOfRows(l []api.Con, vars []string, width int, rows []api.Row, comes []told) api.Errno {
	arg := len(rows) > 1000 || hasTwice(vars)
	for _, name := range vars {
		arg = arg || name == "" || name == "a b" || name == "%no"
	}
	for _, r := range rows {
		arg = arg || len(r.Pats) != width
		for _, name := range namesOf(r.Pats...) {
			arg = arg || slices.Contains(vars, name)
		}
	}
	if arg {
		return api.ErrArg
	}
	for i, r := range rows {
		pats := r.Pats
		if len(pats) == 0 {
			pats = []api.Node{anything()}
		}
		for _, p := range pats {
			if e := refusal(l, p, "<none>", comes[i], "%no", true); e != api.OK {
				return e
			}
		}
		if hasTwice(namesOf(pats...)) {
			return api.ErrScope
		}
	}
	return api.OK
}
