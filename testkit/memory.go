package testkit

import (
	"slices"

	"thunkmill/api"
)

// mark stands in spare room, and overwritten where something was changed.
const (
	mark        = "a mark"
	overwritten = "overwritten"
)

// Spared is a list with marked spare room.
func Spared[T any](l []T, with T) []T {
	return append(slices.Grow(slices.Clone(l), 2), with, with)[:len(l)]
}

// all is a list with its spare room as items of it.
func all[T any](l []T) []T { return l[:cap(l)] }

// SpareExpr is an expression in memory of its own whose lists have spare room, with marks in it.
func SpareExpr(e api.Expr) api.Expr {
	marked := api.Expr{Kind: -9, Name: mark}
	e.Params, e.Args = Spared(e.Params, mark), Spared(e.Args, marked)
	e.Binds, e.Alts = Spared(e.Binds, api.Bind{Name: mark, E: marked}), Spared(e.Alts, api.Alt{Name: mark, E: marked})
	for i := range e.Args {
		e.Args[i] = SpareExpr(e.Args[i])
	}
	for i := range e.Binds {
		e.Binds[i].E = SpareExpr(e.Binds[i].E)
	}
	for i := range e.Alts {
		e.Alts[i].Vars, e.Alts[i].E = Spared(e.Alts[i].Vars, mark), SpareExpr(e.Alts[i].E)
	}
	return e
}

// WholeExpr is an expression with all spare room as parts of it, in memory of its own.
func WholeExpr(e api.Expr) api.Expr {
	e.Params, e.Args = slices.Clone(all(e.Params)), slices.Clone(all(e.Args))
	e.Binds, e.Alts = slices.Clone(all(e.Binds)), slices.Clone(all(e.Alts))
	for i := range e.Args {
		e.Args[i] = WholeExpr(e.Args[i])
	}
	for i := range e.Binds {
		e.Binds[i].E = WholeExpr(e.Binds[i].E)
	}
	for i := range e.Alts {
		e.Alts[i].Vars, e.Alts[i].E = slices.Clone(all(e.Alts[i].Vars)), WholeExpr(e.Alts[i].E)
	}
	return e
}

// SpareProg is a program in memory of its own whose lists have spare room, with marks in it.
func SpareProg(p api.Prog) api.Prog {
	p.Cons = Spared(p.Cons, api.Con{Name: mark, Arity: -9})
	p.Binds = Spared(p.Binds, api.Bind{Name: mark, E: api.Expr{Kind: -9, Name: mark}})
	for i := range p.Binds {
		p.Binds[i].E = SpareExpr(p.Binds[i].E)
	}
	return p
}

// WholeProg is a program with all spare room as parts of it, in memory of its own.
func WholeProg(p api.Prog) api.Prog {
	p.Cons, p.Binds = slices.Clone(all(p.Cons)), slices.Clone(all(p.Binds))
	for i := range p.Binds {
		p.Binds[i].E = WholeExpr(p.Binds[i].E)
	}
	return p
}

// OverwriteProg changes all that can be reached of a program.
func OverwriteProg(p api.Prog) {
	for i := range all(p.Cons) {
		all(p.Cons)[i] = api.Con{Name: overwritten, Arity: -5, Type: overwritten, Tag: -5}
	}
	for i := range all(p.Binds) {
		OverwriteExpr(&all(p.Binds)[i].E)
		all(p.Binds)[i].Name = overwritten
	}
}

// WholeNode is a node with all spare room as parts of it, in memory of its own.
func WholeNode(n api.Node) api.Node {
	n.Kids = slices.Clone(all(n.Kids))
	for i := range n.Kids {
		n.Kids[i] = WholeNode(n.Kids[i])
	}
	return n
}

// OverwriteExpr changes all that can be reached of an expression.
func OverwriteExpr(e *api.Expr) {
	args, binds, alts := all(e.Args), all(e.Binds), all(e.Alts)
	for i := range args {
		OverwriteExpr(&args[i])
	}
	for i := range binds {
		OverwriteExpr(&binds[i].E)
		binds[i].Name = overwritten
	}
	for i := range alts {
		OverwriteExpr(&alts[i].E)
		OverwriteNames(alts[i].Vars)
		alts[i].Kind, alts[i].Name, alts[i].Num = -5, overwritten, -5
	}
	OverwriteNames(e.Params)
	e.Kind, e.Name, e.Num = -5, overwritten, -5
}

// OverwriteNames changes all names of a list, and its spare room.
func OverwriteNames(l []string) {
	for i := range all(l) {
		all(l)[i] = overwritten
	}
}

// Memory is where the items of lists are, their spare room with them.
type Memory map[any]struct{}

// own tells whether an item is at a place where none was yet.
func (m Memory) own(p any) bool {
	_, there := m[p]
	m[p] = struct{}{}
	return !there
}

func (m Memory) ownNames(l []string) bool {
	ok := true
	for i := range all(l) {
		ok = m.own(&all(l)[i]) && ok
	}
	return ok
}

// OwnExpr tells whether no item of an expression's lists is where another one is, of it or of what was asked of before.
func (m Memory) OwnExpr(e *api.Expr) bool {
	args, binds, alts := all(e.Args), all(e.Binds), all(e.Alts)
	ok := m.ownNames(e.Params)
	for i := range args {
		ok = m.own(&args[i]) && m.OwnExpr(&args[i]) && ok
	}
	for i := range binds {
		ok = m.own(&binds[i]) && m.OwnExpr(&binds[i].E) && ok
	}
	for i := range alts {
		ok = m.own(&alts[i]) && m.ownNames(alts[i].Vars) && m.OwnExpr(&alts[i].E) && ok
	}
	return ok
}

// OwnProg tells the same of a program's lists.
func (m Memory) OwnProg(p api.Prog) bool {
	ok := true
	for i := range all(p.Cons) {
		ok = m.own(&all(p.Cons)[i]) && ok
	}
	for i := range all(p.Binds) {
		ok = m.own(&all(p.Binds)[i]) && m.OwnExpr(&all(p.Binds)[i].E) && ok
	}
	return ok
}

// OwnNode tells the same of a node's lists.
func (m Memory) OwnNode(n *api.Node) bool {
	kids, ok := all(n.Kids), true
	for i := range kids {
		ok = m.own(&kids[i]) && m.OwnNode(&kids[i]) && ok
	}
	return ok
}
