package desugar_test

import (
	"slices"
	"strconv"
	"strings"

	"thunkmill/api"
	"thunkmill/core"
	"thunkmill/match"
	"thunkmill/shape"
	"thunkmill/testkit"
)

// The reference makes expressions word by word as the chapter tells it: what comes is whole when it is handed to match, %no stands in it, core.Free tells what a binding leans on, and groups are told by who can be reached from whom. Names in scope are a list that is handed down. It knows no limits.

type reference struct {
	cons []api.Con
	last int
}

func (r *reference) fresh() string {
	r.last++
	return "<fresh>" + strconv.Itoa(r.last)
}

func letIn(e api.Expr, binds ...api.Bind) api.Expr {
	return api.Expr{Kind: api.ExLet, Binds: binds, Args: []api.Expr{e}}
}

func lamOf(body api.Expr, params ...string) api.Expr {
	return api.Expr{Kind: api.ExLam, Params: params, Args: []api.Expr{body}}
}

func conOf(name string, parts ...api.Expr) api.Expr {
	return api.Expr{Kind: api.ExCon, Name: name, Args: parts}
}

func primOf(name string, args ...api.Expr) api.Expr {
	return api.Expr{Kind: api.ExPrim, Name: name, Args: args}
}

func appOf(parts ...api.Expr) api.Expr { return api.Expr{Kind: api.ExApp, Args: parts} }

func caseOf(e api.Expr, alts ...api.Alt) api.Expr {
	return api.Expr{Kind: api.ExCase, Args: []api.Expr{e}, Alts: alts}
}

func truthOf(c, yes, no api.Expr) api.Expr {
	return caseOf(c, api.Alt{Kind: api.AltCon, Name: "True", E: yes}, api.Alt{Kind: api.AltCon, Name: "False", E: no})
}

// must is an expression that has no error.
func must(e api.Expr, err api.Errno) api.Expr {
	if err != api.OK {
		panic("the reference was handed what may not be: " + strconv.Itoa(int(err)))
	}
	return e
}

func bare(n api.Node) api.Node {
	for n.Kind == api.NdParen {
		n = n.Kids[0]
	}
	return n
}

// arity is how many arguments a node takes at once; -1, if it is neither a constructor nor a primitive.
func (r *reference) arity(n api.Node, in []string) int {
	switch {
	case n.Kind == api.NdCon:
		c, _ := shape.Find(r.cons, n.Name)
		return c.Arity
	case n.Kind == api.NdVar && !slices.Contains(in, n.Name):
		return core.Arity(n.Name)
	}
	return -1
}

// saturated is a constructor or a primitive with all its arguments.
func saturated(n api.Node, args []api.Expr) api.Expr {
	switch {
	case n.Kind == api.NdVar:
		return primOf(n.Name, args...)
	case n.Name == ":":
		return conOf("Cons", args...)
	}
	return conOf(n.Name, args...)
}

func (r *reference) leaf(n api.Node, in []string) api.Expr {
	k := r.arity(n, in)
	if k < 0 {
		return variable(n.Name)
	}
	var params []string
	var args []api.Expr
	for range k {
		params = append(params, r.fresh())
		args = append(args, variable(params[len(params)-1]))
	}
	if k == 0 {
		return saturated(n, nil)
	}
	return lamOf(saturated(n, args), params...)
}

func (r *reference) apply(f api.Node, args []api.Expr, in []string) api.Expr {
	f = bare(f)
	var e api.Expr
	if k := r.arity(f, in); k > 0 && k <= len(args) {
		e, args = saturated(f, args[:k]), args[k:]
	} else {
		e = r.expr(f, in)
	}
	for len(args) > 0 {
		k := min(len(args), 32)
		e, args = appOf(append([]api.Expr{e}, args[:k]...)...), args[k:]
	}
	return e
}

func (r *reference) exprs(l []api.Node, in []string) []api.Expr {
	var all []api.Expr
	for _, n := range l {
		all = append(all, r.expr(n, in))
	}
	return all
}

func operator(n api.Node) api.Node {
	if strings.ContainsAny(n.Name[:1], ":ABCDEFGHIJKLMNOPQRSTUVWXYZ") {
		return named(api.NdCon, n.Name)
	}
	return named(api.NdVar, n.Name)
}

func with(in []string, more []string) []string { return slices.Concat(in, more) }

func (r *reference) expr(n api.Node, in []string) api.Expr {
	switch n.Kind {
	case api.NdVar, api.NdCon:
		return r.leaf(n, in)
	case api.NdInt:
		return number(n.Num)
	case api.NdChar:
		return api.Expr{Kind: api.ExChar, Num: n.Num}
	case api.NdString:
		return r.string(n.Name)
	case api.NdApp:
		return r.apply(n.Kids[0], r.exprs(n.Kids[1:], in), in)
	case api.NdNeg:
		return primOf("sub", number(0), r.expr(n.Kids[0], in))
	case api.NdParen:
		return r.expr(n.Kids[0], in)
	case api.NdTuple:
		return conOf("Tup"+strconv.Itoa(len(n.Kids)), r.exprs(n.Kids, in)...)
	case api.NdList:
		if len(n.Kids) == 0 {
			return conOf("Nil")
		}
		return conOf("Cons", r.expr(n.Kids[0], in), r.expr(node(api.NdList, n.Kids[1:]...), in))
	case api.NdLam:
		last := len(n.Kids) - 1
		pats := n.Kids[:last]
		return must(match.Function(r.cons, []api.Row{{Pats: pats, E: r.expr(n.Kids[last], with(in, namesOf(pats...)))}}))
	case api.NdIf:
		l := r.exprs(n.Kids, in)
		return truthOf(l[0], l[1], l[2])
	case api.NdCase:
		v := r.fresh()
		rows := must(match.Rows(r.cons, []string{v}, r.rows(n.Kids[1:], in)))
		return letIn(rows, api.Bind{Name: v, E: r.expr(n.Kids[0], in)})
	case api.NdLeft:
		return r.apply(operator(n), r.exprs(n.Kids, in), in)
	case api.NdRight:
		v, x := r.fresh(), r.fresh()
		return letIn(lamOf(r.apply(operator(n), []api.Expr{variable(x), variable(v)}, in), x), api.Bind{Name: v, E: r.expr(n.Kids[0], in)})
	case api.NdLet:
		return r.declared(n.Kids[0].Kids, in, func(in []string) api.Expr { return r.expr(n.Kids[1], in) })
	case api.NdDo:
		return r.do(n.Kids, in)
	case api.NdComp:
		return r.listed(n.Kids[0], n.Kids[1:], conOf("Nil"), in)
	}
	panic("the reference knows no kind " + strconv.Itoa(n.Kind))
}

func (r *reference) string(s string) api.Expr {
	if s == "" {
		return conOf("Nil")
	}
	return conOf("Cons", api.Expr{Kind: api.ExChar, Num: int64(s[0])}, r.string(s[1:]))
}

// rows are those of alternatives, or equations.
func (r *reference) rows(l []api.Node, in []string) []api.Row {
	var rows []api.Row
	for _, n := range l {
		last := len(n.Kids) - 1
		pats := n.Kids[:last]
		rows = append(rows, api.Row{Pats: pats, E: r.right(n.Kids[last], with(in, namesOf(pats...)))})
	}
	return rows
}

// right is an NdRhs, %no being what comes if it fails.
func (r *reference) right(n api.Node, in []string) api.Expr {
	l := n.Kids
	var decls []api.Node
	if last := len(l) - 1; l[last].Kind == api.NdWhere {
		decls, l = l[last].Kids, l[:last]
	}
	return r.declared(decls, in, func(in []string) api.Expr { return r.guards(l, in) })
}

func (r *reference) guards(l []api.Node, in []string) api.Expr {
	switch {
	case len(l) == 0:
		return variable("%no")
	case l[0].Kind != api.NdGuard:
		return r.expr(l[0], in)
	}
	return truthOf(r.expr(l[0].Kids[0], in), r.expr(l[0].Kids[1], in), r.guards(l[1:], in))
}

func (r *reference) do(l []api.Node, in []string) api.Expr {
	s := l[0]
	switch {
	case len(l) == 1:
		return r.expr(s.Kids[0], in)
	case s.Kind == api.NdStmt:
		return primOf("bind", r.expr(s.Kids[0], in), lamOf(r.do(l[1:], in), r.fresh()))
	case s.Kind == api.NdGen:
		pats := s.Kids[:1]
		rest := must(match.Function(r.cons, []api.Row{{Pats: pats, E: r.do(l[1:], with(in, namesOf(pats...)))}}))
		return primOf("bind", r.expr(s.Kids[1], in), rest)
	}
	return r.declared(s.Kids[0].Kids, in, func(in []string) api.Expr { return r.do(l[1:], in) })
}

// listed is T.
func (r *reference) listed(e api.Node, qs []api.Node, t api.Expr, in []string) api.Expr {
	if len(qs) == 0 {
		return conOf("Cons", r.expr(e, in), t)
	}
	q := qs[0]
	if q.Kind == api.NdLets {
		return r.declared(q.Kids[0].Kids, in, func(in []string) api.Expr { return r.listed(e, qs[1:], t, in) })
	}
	x := t
	var binds []api.Bind
	if t.Kind != api.ExVar && core.Text(t) != "(Nil)" {
		x = variable(r.fresh())
		binds = []api.Bind{{Name: x.Name, E: t}}
	}
	if q.Kind == api.NdStmt {
		e := truthOf(r.expr(q.Kids[0], in), r.listed(e, qs[1:], x, in), x)
		if len(binds) == 0 {
			return e
		}
		return letIn(e, binds...)
	}
	h, us, u, ws := variable(r.fresh()), r.fresh(), r.fresh(), variable(r.fresh())
	onward := appOf(h, ws)
	rows := must(match.Rows(r.cons, []string{u}, []api.Row{
		{Pats: q.Kids[:1], E: r.listed(e, qs[1:], onward, with(in, namesOf(q.Kids[0])))},
		{Pats: []api.Node{anything()}, E: onward},
	}))
	body := caseOf(variable(us), api.Alt{Kind: api.AltCon, Name: "Nil", E: x}, api.Alt{Kind: api.AltCon, Name: "Cons", Vars: []string{u, ws.Name}, E: rows})
	return letIn(appOf(h, r.expr(q.Kids[1], in)), append(binds, api.Bind{Name: h.Name, E: lamOf(body, us)})...)
}

// declared is declarations in an expression.
func (r *reference) declared(decls []api.Node, in []string, body func(in []string) api.Expr) api.Expr {
	in = with(in, definedBy(decls))
	l := r.bindings(decls, in, r.fresh)
	e := body(in)
	order := inGroups(l)
	for i := len(order) - 1; i >= 0; i-- {
		e = letIn(e, order[i]...)
	}
	return e
}

func definedBy(decls []api.Node) []string {
	var names []string
	for _, d := range decls {
		switch d.Kind {
		case api.NdEqn:
			names = append(names, d.Name)
		case api.NdBind:
			names = append(names, namesOf(d.Kids[0])...)
		}
	}
	return names
}

func namesOf(pats ...api.Node) []string {
	var names []string
	n := node(0, pats...)
	for _, k := range places(&n) {
		if k.Kind == api.NdPVar || k.Kind == api.NdPAs {
			names = append(names, k.Name)
		}
	}
	return names
}

func (r *reference) bindings(decls []api.Node, in []string, whole func() string) []api.Bind {
	var l []api.Bind
	for i, d := range decls {
		switch {
		case d.Kind == api.NdEqn && (i == 0 || decls[i-1].Kind != api.NdEqn || decls[i-1].Name != d.Name):
			end := i
			for end < len(decls) && decls[end].Kind == api.NdEqn && decls[end].Name == d.Name {
				end++
			}
			l = append(l, api.Bind{Name: d.Name, E: must(match.Function(r.cons, r.rows(decls[i:end], in)))})
		case d.Kind == api.NdBind:
			right := core.Subst(r.right(d.Kids[1], in), "%no", failure())
			if d.Kids[0].Kind == api.NdPVar {
				l = append(l, api.Bind{Name: d.Kids[0].Name, E: right})
				continue
			}
			v := whole()
			l = append(l, api.Bind{Name: v, E: right})
			l = append(l, r.parts(d.Kids[0], v)...)
		}
	}
	return l
}

// parts are what the names of a pattern are: each the fresh name of its own behind the pattern with all names fresh. A pattern's names must be lexemes, these are none of any test.
func (r *reference) parts(p api.Node, v string) []api.Bind {
	var l []api.Bind
	for i, x := range namesOf(p) {
		q := testkit.Copied(p)
		for _, n := range places(&q) {
			if n.Kind == api.NdPVar || n.Kind == api.NdPAs {
				r.last++
				n.Name = "fresh'" + strconv.Itoa(r.last)
			}
		}
		l = append(l, api.Bind{Name: x, E: must(match.Pattern(r.cons, q, v, variable(namesOf(q)[i]), failure()))})
	}
	return l
}

// inGroups are bindings group by group: those that lean on one another together, each time the first one whose turn it is.
func inGroups(l []api.Bind) [][]api.Bind {
	leans := make([][]bool, len(l))
	for i := range l {
		leans[i] = make([]bool, len(l))
		for j := range l {
			leans[i][j] = slices.Contains(core.Free(l[i].E), l[j].Name)
		}
	}
	for k := range l {
		for i := range l {
			for j := range l {
				leans[i][j] = leans[i][j] || leans[i][k] && leans[k][j]
			}
		}
	}
	var order [][]api.Bind
	done := make([]bool, len(l))
	for i := 0; i < len(l); i++ {
		ready := !done[i]
		for j := range l {
			ready = ready && (!leans[i][j] || leans[j][i] || done[j])
		}
		if !ready {
			continue
		}
		var group []api.Bind
		for j := range l {
			if j == i || leans[i][j] && leans[j][i] {
				group, done[j] = append(group, l[j]), true
			}
		}
		order = append(order, group)
		i = -1
	}
	return order
}

// program is a program of the core.
func (r *reference) program(n api.Node) api.Prog {
	p := api.Prog{}
	p.Cons, _ = shape.Cons(n)
	r.cons = p.Cons
	which := 0
	p.Binds = r.bindings(n.Kids, definedBy(n.Kids), func() string {
		which++
		return "%" + strconv.Itoa(which)
	})
	slices.SortFunc(p.Binds, func(a, b api.Bind) int { return strings.Compare(a.Name, b.Name) })
	return p
}
