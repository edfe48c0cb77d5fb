package simpl

import (
	"slices"

	"thunkmill/api"
)

// fewAlts is how many expressions a case's alternatives may have to be made again for each alternative of another case.
const fewAlts = 12

// isCaseOf tells whether an expression is a case of one of a kind.
func isCaseOf(e *api.Expr, kind int) bool {
	return e.Kind == api.ExCase && e.Args[0].Kind == kind
}

func caseOf(e api.Expr, alts []api.Alt) api.Expr {
	return api.Expr{Kind: api.ExCase, Args: []api.Expr{e}, Alts: alts}
}

// fitting is the place of the first alternative that fits what a case is of; -1, if none does, or that is no value yet.
func fitting(e *api.Expr) int {
	if !isCaseOf(e, api.ExCon) && !isCaseOf(e, api.ExInt) && !isCaseOf(e, api.ExChar) {
		return -1
	}
	for i := range e.Alts {
		if isFor(&e.Alts[i], &e.Args[0]) {
			return i
		}
	}
	return -1
}

// isFor tells whether an alternative fits a value.
func isFor(a *api.Alt, v *api.Expr) bool {
	switch a.Kind {
	case api.AltCon:
		return v.Kind == api.ExCon && v.Name == a.Name && len(v.Args) == len(a.Vars)
	case api.AltInt:
		return v.Kind == api.ExInt && v.Num == a.Num
	case api.AltChar:
		return v.Kind == api.ExChar && v.Num == a.Num
	}
	return true
}

func (t *tree) isChosen(e *api.Expr) bool { return fitting(e) >= 0 }

func (t *tree) chosen(e *api.Expr) api.Expr {
	v, n := &e.Args[0], fitting(e)
	for i := range e.Alts {
		if i != n {
			t.drop(&e.Alts[i].E)
		}
	}
	a := &e.Alts[n]
	switch {
	case len(a.Vars) == 0:
		t.drop(v)
		return a.E
	case a.Kind == api.AltElse:
		return t.letOf(a.Vars, e.Args, a.E)
	}
	return t.letOf(a.Vars, v.Args, a.E)
}

func (t *tree) isCaseOfCase(e *api.Expr) bool {
	return isCaseOf(e, api.ExCase) && (len(e.Args[0].Alts) == 1 || areFew(e.Alts))
}

func areFew(l []api.Alt) bool {
	r := room{left: fewAlts}
	for i := range l {
		if !r.take(&l[i].E, fewAlts) {
			return false
		}
	}
	return true
}

func (t *tree) caseWithin(e *api.Expr) api.Expr {
	inner := &e.Args[0]
	alts := slices.Clone(inner.Alts)
	for i := range alts {
		outer := e.Alts
		if i > 0 {
			outer = t.copiedAlts(e.Alts)
		}
		alts[i].E = caseOf(alts[i].E, outer)
	}
	return caseOf(inner.Args[0], alts)
}

func (t *tree) isCaseOfLet(e *api.Expr) bool { return isCaseOf(e, api.ExLet) }

func (t *tree) caseWithinLet(e *api.Expr) api.Expr {
	of := &e.Args[0]
	return let(of.Binds, caseOf(of.Args[0], e.Alts))
}

func (t *tree) hasDeadElse(e *api.Expr) bool {
	if len(e.Alts) != 1 || e.Alts[0].Kind != api.AltElse || len(e.Alts[0].Vars) == 0 {
		return false
	}
	return t.bound[e.Alts[0].Vars[0]].places == 0
}

func (t *tree) withoutName(e *api.Expr) api.Expr {
	return caseOf(e.Args[0], []api.Alt{{Kind: api.AltElse, E: e.Alts[0].E}})
}
