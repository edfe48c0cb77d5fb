package core

import "thunkmill/api"

// pairing is the scopes of two expressions that are gone through side by side.
type pairing struct {
	a, b scope
}

func same(a, b *api.Expr) bool {
	p := pairing{a: newScope(), b: newScope()}
	return p.expr(a, b)
}

func (p *pairing) expr(a, b *api.Expr) bool {
	// Both must bind as many names, so that levels tell the same of both.
	if a.Kind != b.Kind || a.Num != b.Num || len(a.Params) != len(b.Params) || len(a.Binds) != len(b.Binds) {
		return false
	}
	outerA, outerB := p.a.inner, p.b.inner
	p.a.enter(a)
	p.b.enter(b)
	ok := p.name(a, b) && p.binds(a.Binds, b.Binds) && p.exprs(a.Args, b.Args) && p.alts(a.Alts, b.Alts)
	p.a.leave(outerA)
	p.b.leave(outerB)
	return ok
}

func (p *pairing) name(a, b *api.Expr) bool {
	if a.Kind != api.ExVar {
		return a.Name == b.Name
	}
	level := p.a.level(a.Name)
	if level != p.b.level(b.Name) {
		return false
	}
	return level > 0 || a.Name == b.Name
}

func (p *pairing) exprs(a, b []api.Expr) bool {
	if len(a) != len(b) {
		return false
	}
	for i := range a {
		if !p.expr(&a[i], &b[i]) {
			return false
		}
	}
	return true
}

func (p *pairing) binds(a, b []api.Bind) bool {
	for i := range a {
		if !p.expr(&a[i].E, &b[i].E) {
			return false
		}
	}
	return true
}

func (p *pairing) alts(a, b []api.Alt) bool {
	if len(a) != len(b) {
		return false
	}
	for i := range a {
		if !p.alt(&a[i], &b[i]) {
			return false
		}
	}
	return true
}

func (p *pairing) alt(a, b *api.Alt) bool {
	if a.Kind != b.Kind || a.Name != b.Name || a.Num != b.Num || len(a.Vars) != len(b.Vars) {
		return false
	}
	outerA, outerB := p.a.inner, p.b.inner
	p.a.bindAll(a.Vars)
	p.b.bindAll(b.Vars)
	ok := p.expr(&a.E, &b.E)
	p.a.leave(outerA)
	p.b.leave(outerB)
	return ok
}
