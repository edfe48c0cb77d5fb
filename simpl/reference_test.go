package simpl_test

import (
	"slices"
	"testing"

	"thunkmill/api"
	"thunkmill/core"
	"thunkmill/occur"
	"thunkmill/prim"
	"thunkmill/simpl"
	"thunkmill/testkit"
)

// The reference does word by word what the chapter says, each time from the beginning on, to an expression whose bound names were all made unlike.

// unlike is an expression whose bound names are unlike each other and the free ones.
func unlike(e api.Expr) api.Expr {
	return testkit.Unlike().Renamed(e, testkit.Itself(core.Free(e)))
}

// refPlaces are the expressions at an expression's positions.
func refPlaces(e *api.Expr) []*api.Expr {
	l := []*api.Expr{e}
	for i := range e.Binds {
		l = append(l, refPlaces(&e.Binds[i].E)...)
	}
	for i := range e.Args {
		l = append(l, refPlaces(&e.Args[i])...)
	}
	for i := range e.Alts {
		l = append(l, refPlaces(&e.Alts[i].E)...)
	}
	return l
}

// refRule tells what becomes of an expression by a rule; nothing, if it does not apply.
func refRule(e api.Expr, rule int) *api.Expr {
	of := func(kind int) bool { return len(e.Args) > 0 && e.Args[0].Kind == kind }
	switch {
	case e.Kind == api.ExLet && rule == api.RuleDead:
		return refDead(e)
	case e.Kind == api.ExLet && rule == api.RuleAtom:
		return refAtom(e)
	case e.Kind == api.ExLet && rule == api.RuleOnce:
		return refOnce(e)
	case e.Kind == api.ExApp && rule == api.RuleBeta && of(api.ExLam):
		return refBeta(e)
	case e.Kind == api.ExApp && rule == api.RuleLetApp && of(api.ExLet):
		e.Args = slices.Clone(e.Args)
		let := e.Args[0]
		e.Args[0] = let.Args[0]
		let.Args = list(e)
		return &let
	case e.Kind == api.ExApp && rule == api.RuleAppApp && of(api.ExApp) && len(e.Args[0].Args)+len(e.Args)-2 <= 32:
		e.Args = append(slices.Clone(e.Args[0].Args), e.Args[1:]...)
		return &e
	case e.Kind == api.ExCase && rule == api.RuleCase:
		return refCase(e)
	case e.Kind == api.ExCase && rule == api.RuleCaseCase && of(api.ExCase):
		return refCaseCase(e)
	case e.Kind == api.ExCase && rule == api.RuleLetCase && of(api.ExLet):
		let := e.Args[0]
		e.Args = let.Args
		let.Args = list(e)
		return &let
	case e.Kind == api.ExCase && rule == api.RuleCaseLet && len(e.Alts) == 1 && len(e.Alts[0].Vars) == 1 && e.Alts[0].Kind == api.AltElse:
		return refCaseLet(e)
	case e.Kind == api.ExPrim && rule == api.RuleFold:
		return refFold(e)
	case e.Kind == api.ExPrim && rule == api.RuleSeq && e.Name == "seq" && slices.Contains([]int{api.ExInt, api.ExChar, api.ExCon, api.ExLam}, e.Args[0].Kind):
		return &e.Args[1]
	}
	return nil
}

// refWithout is a let without its i-th binding.
func refWithout(e api.Expr, i int) api.Expr {
	if len(e.Binds) == 1 {
		return e.Args[0]
	}
	e.Binds = slices.Delete(slices.Clone(e.Binds), i, i+1)
	return e
}

func refDead(e api.Expr) *api.Expr {
	for i, b := range e.Binds {
		lam := api.Expr{Kind: api.ExLam, Params: []string{b.Name}, Args: append(refBound(e), e.Args...)}
		if all, _ := occur.All(lam); all[0].Occ == api.OccDead {
			e = refWithout(e, i)
			return &e
		}
	}
	return nil
}

// refBound are what a let's names are.
func refBound(e api.Expr) []api.Expr {
	var l []api.Expr
	for _, b := range e.Binds {
		l = append(l, b.E)
	}
	return l
}

func refAtom(e api.Expr) *api.Expr {
	for i, b := range e.Binds {
		own := slices.ContainsFunc(e.Binds, func(x api.Bind) bool { return b.E.Kind == api.ExVar && x.Name == b.E.Name })
		if (b.E.Kind == api.ExInt || b.E.Kind == api.ExChar || b.E.Kind == api.ExVar) && !own {
			e = core.Subst(refWithout(e, i), b.Name, b.E)
			return &e
		}
	}
	return nil
}

func refOnce(e api.Expr) *api.Expr {
	b := e.Binds[0]
	occ, _ := occur.Of(e.Args[0], b.Name)
	if len(e.Binds) > 1 || slices.Contains(core.Free(b.E), b.Name) || occ != api.OccOnce && (occ != api.OccLam || b.E.Kind != api.ExLam) {
		return nil
	}
	e = core.Subst(e.Args[0], b.Name, b.E)
	return &e
}

func refBeta(e api.Expr) *api.Expr {
	lam, args := e.Args[0], e.Args[1:]
	if len(lam.Params) > len(args) {
		return nil
	}
	let := api.Expr{Kind: api.ExLet, Args: lam.Args}
	for i, name := range lam.Params {
		let.Binds = append(let.Binds, api.Bind{Name: name, E: args[i]})
	}
	if rest := args[len(lam.Params):]; len(rest) > 0 {
		return &api.Expr{Kind: api.ExApp, Args: append(list(let), rest...)}
	}
	return &let
}

func refCase(e api.Expr) *api.Expr {
	v := e.Args[0]
	for _, a := range e.Alts {
		parts := v.Args
		switch {
		case v.Kind != api.ExCon && v.Kind != api.ExInt && v.Kind != api.ExChar:
			return nil
		case a.Kind == api.AltElse:
			parts = list(v)
		case a.Kind == api.AltCon && (v.Kind != api.ExCon || a.Name != v.Name || len(a.Vars) != len(v.Args)):
			continue
		case a.Kind == api.AltInt && (v.Kind != api.ExInt || a.Num != v.Num) || a.Kind == api.AltChar && (v.Kind != api.ExChar || a.Num != v.Num):
			continue
		}
		if len(a.Vars) == 0 {
			return &a.E
		}
		let := api.Expr{Kind: api.ExLet, Args: list(a.E)}
		for i, name := range a.Vars {
			let.Binds = append(let.Binds, api.Bind{Name: name, E: parts[i]})
		}
		return &let
	}
	return nil
}

func refCaseCase(e api.Expr) *api.Expr {
	inner, n := e.Args[0], 0
	for _, a := range e.Alts {
		n += core.Size(a.E)
	}
	if n > 12 && len(inner.Alts) != 1 {
		return nil
	}
	inner.Alts = slices.Clone(inner.Alts)
	for i := range inner.Alts {
		inner.Alts[i].E = api.Expr{Kind: api.ExCase, Args: list(inner.Alts[i].E), Alts: e.Alts}
	}
	return &inner
}

func refCaseLet(e api.Expr) *api.Expr {
	a := e.Alts[0]
	if n, _ := occur.Count(a.E, a.Vars[0]); n > 0 {
		return nil
	}
	a.Vars = nil
	e.Alts = []api.Alt{a}
	return &e
}

func refFold(e api.Expr) *api.Expr {
	var l []api.Prim
	for _, a := range e.Args {
		kind := map[int]int{api.ExInt: api.PrimInt, api.ExChar: api.PrimChar}[a.Kind]
		l = append(l, api.Prim{Kind: kind, Num: a.Num})
	}
	v, err := prim.Apply(e.Name, l)
	switch {
	case err != api.OK || v.Kind == api.PrimError:
		return nil
	case v.Kind == api.PrimBool:
		return &api.Expr{Kind: api.ExCon, Name: []string{"False", "True"}[v.Num]}
	}
	return &api.Expr{Kind: map[int]int{api.PrimInt: api.ExInt, api.PrimChar: api.ExChar}[v.Kind], Num: v.Num}
}

// refRewrite is what Rewrite is to tell of an expression that may be, but for its limits.
func refRewrite(e api.Expr, at, rule int) *api.Expr {
	e = unlike(e)
	place := refPlaces(&e)[at]
	by := refRule(*place, rule)
	if by == nil {
		return nil
	}
	*place = *by
	return &e
}

func deepOf(e api.Expr) int {
	deep := 0
	for _, l := range [][]api.Expr{refBound(e), e.Args} {
		for _, part := range l {
			deep = max(deep, deepOf(part))
		}
	}
	for _, a := range e.Alts {
		deep = max(deep, deepOf(a.E))
	}
	return deep + 1
}

// refPass is what Pass is to tell.
func refPass(e api.Expr, most int) (api.Expr, int) {
	for n := range most {
		next := refNext(e)
		if next == nil || core.Size(*next) > 20000 || deepOf(*next) > 1000 {
			return e, n
		}
		e = *next
	}
	return e, most
}

// refNext is an expression behind one rewriting; nil, if nothing applies.
func refNext(e api.Expr) *api.Expr {
	e = unlike(e)
	for _, place := range refPlaces(&e) {
		for _, rule := range allRules() {
			if by := refRule(*place, rule); by != nil {
				*place = *by
				return &e
			}
		}
	}
	return nil
}

// P17.1: over expressions made by chance, each position and each rule.
func TestRewriteAsReference(t *testing.T) {
	applied := map[int]int{}
	for _, e := range madeExprs(171, 1700, 5) {
		for at := range positions(e) {
			for _, rule := range allRules() {
				want := refRewrite(e, at, rule)
				if want == nil {
					want = &api.Expr{}
				} else {
					applied[rule]++
				}
				becomesExpr(t, e, at, rule, *want)
			}
			part := refPlaces(&e)[at]
			if got, err := simpl.At(e, at); core.Text(got) != core.Text(*part) || err != api.OK {
				t.Errorf("At %d of %s: %s, error %d", at, brief(e), brief(got), err)
			}
		}
		if t.Failed() {
			return
		}
	}
	for _, rule := range allRules() {
		if applied[rule] < 30 {
			t.Errorf("%s applied %d times only", simpl.Name(rule), applied[rule])
		}
	}
}

// madeExprs are expressions made by chance, of programs that mostly do something and of others.
func madeExprs(seed int64, n, deep int) []api.Expr {
	m := seeded(seed)
	_, x := m.ByTable()
	var l []api.Expr
	for range n {
		m.Program()
		l = append(l, m.Expr(testkit.Sort(m.Chance.Intn(int(testkit.Sorts))), 1+m.Chance.Intn(deep)), x.Expr(1+m.Chance.Intn(deep)))
	}
	return l
}

// P17.2: a pass over expressions made by chance, as far as it goes and as far as it may.
func TestPassAsReference(t *testing.T) {
	longest := 0
	for _, e := range madeExprs(172, 1500, 9) {
		want, n := refPass(e, 300)
		longest = max(longest, n)
		for _, most := range []int{300, n, n + 1, n / 2, 1, 0} {
			want := want
			if most < n {
				want, _ = refPass(e, most)
			}
			if got, done := passed(t, e, most); done != min(n, most) || !core.Same(got, want) {
				t.Fatalf("Pass of %s, %d: %s, %d; want %s, %d", brief(e), most, brief(got), done, brief(want), min(n, most))
			}
		}
	}
	if longest < 30 {
		t.Errorf("the longest pass has %d rewritings only", longest)
	}
}
