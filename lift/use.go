package lift

import (
	"thunkmill/api"
	"thunkmill/core"
)

// visit calls a function at an expression and, where that says so, at each of its parts, in the order in which lets are lifted.
func visit(e *api.Expr, at func(e *api.Expr) (within bool)) {
	if !at(e) {
		return
	}
	for i := range e.Binds {
		visit(&e.Binds[i].E, at)
	}
	for i := range e.Args {
		visit(&e.Args[i], at)
	}
	for i := range e.Alts {
		visit(&e.Alts[i].E, at)
	}
}

// use is how a name stands in expressions.
type use struct {
	places      int // It stands at so many places,
	calls       int // at so many of them as the function of an application,
	least, most int // with so many arguments, if there are such.
}

func (u use) and(more use) use {
	switch {
	case u.calls == 0:
		u.least = more.least
	case more.calls > 0:
		u.least = min(u.least, more.least)
	}
	return use{u.places + more.places, u.calls + more.calls, u.least, max(u.most, more.most)}
}

// uses are names, and how they stand.
type uses map[string]use

func (l uses) add(name string, u use) { l[name] = l[name].and(u) }

// joined are the names of both, which are not used any more. The fewer go to the more: what is deep within lets would be gone through for each of them else.
func joined(a, b uses) uses {
	if len(a) < len(b) {
		a, b = b, a
	}
	for name, u := range b {
		a.add(name, u)
	}
	return a
}

// countFree tells how many free variables a let has in a program.
func countFree(l, program []api.Bind) int {
	free := map[string]struct{}{}
	for i := range l {
		for _, name := range core.Free(l[i].E) {
			free[name] = struct{}{}
		}
	}
	for _, bound := range [][]api.Bind{l, program} {
		for i := range bound {
			delete(free, bound[i].Name)
		}
	}
	return len(free)
}
