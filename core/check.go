package core

import (
	"slices"

	"thunkmill/api"
)

// constructors has the first constructor of each name.
type constructors map[string]api.Con

func constructorsOf(l []api.Con) constructors {
	c := constructors{}
	for _, con := range l {
		if _, there := c[con.Name]; !there {
			c[con.Name] = con
		}
	}
	return c
}

// check tells what is wrong with the expressions of bindings, where these constructors are there and these names are in scope.
func check(l []api.Bind, cons []api.Con, names []string) api.Errno {
	c := constructorsOf(cons)
	if !allBinds(l, c.mayBe) {
		return api.ErrArg
	}
	if !allBinds(l, c.shaped) {
		return api.ErrShape
	}
	s := newSeeker()
	s.in.bindAll(names)
	s.binds(l)
	if len(s.found) > 0 {
		return api.ErrScope
	}
	return api.OK
}

// consMayBe tells whether a program's constructors may be.
func consMayBe(l []api.Con) bool {
	names := make([]string, len(l))
	for i, c := range l {
		if !isName(c.Type) || c.Arity < 0 || c.Arity > api.MaxParams {
			return false
		}
		if i == 0 && c.Tag != 0 || i > 0 && !follows(l[i-1], c) {
			return false
		}
		names[i] = c.Name
	}
	return areNames(names) && slices.Equal(ofBuiltinTypes(l), Builtin())
}

// follows tells whether a constructor may stand behind another one: as the next one of its type, or as the first one of a later type.
func follows(last, c api.Con) bool {
	if c.Type == last.Type {
		return c.Tag == last.Tag+1
	}
	return c.Type > last.Type && c.Tag == 0
}

func ofBuiltinTypes(l []api.Con) []api.Con {
	types := map[string]struct{}{}
	for _, c := range Builtin() {
		types[c.Type] = struct{}{}
	}
	var of []api.Con
	for _, c := range l {
		if _, there := types[c.Type]; there {
			of = append(of, c)
		}
	}
	return of
}

func bindsRise(l []api.Bind) bool {
	for i := range l {
		if !isName(l[i].Name) || i > 0 && l[i].Name <= l[i-1].Name {
			return false
		}
	}
	return true
}

// The fields that an expression may have beside its Kind.
const (
	hasName = 1 << iota
	hasNum
	hasParams
	hasBinds
	hasArgs
	hasAlts
)

// fieldsOf tells the fields of a kind.
func fieldsOf(kind int) int {
	switch kind {
	case api.ExVar:
		return hasName
	case api.ExInt, api.ExChar:
		return hasNum
	case api.ExCon, api.ExPrim:
		return hasName | hasArgs
	case api.ExLam:
		return hasParams | hasArgs
	case api.ExApp:
		return hasArgs
	case api.ExLet:
		return hasBinds | hasArgs
	case api.ExCase:
		return hasArgs | hasAlts
	}
	return 0
}

// filled tells the fields that are not zero.
func filled(e *api.Expr) int {
	fields := 0
	for i, there := range [...]bool{e.Name != "", e.Num != 0, len(e.Params) > 0, len(e.Binds) > 0, len(e.Args) > 0, len(e.Alts) > 0} {
		if there {
			fields |= hasName << i
		}
	}
	return fields
}

// mayBe tells whether an expression's own fields are as the table says, its alternatives too, but for how many parts constructors and primitives have.
func (c constructors) mayBe(e *api.Expr) bool {
	if filled(e)&^fieldsOf(e.Kind) != 0 {
		return false
	}
	switch e.Kind {
	case api.ExVar, api.ExCon, api.ExPrim:
		return isName(e.Name)
	case api.ExInt:
		return true
	case api.ExChar:
		return isChar(e.Num)
	case api.ExLam:
		return 1 <= len(e.Params) && len(e.Params) <= api.MaxParams && areNames(e.Params) && len(e.Args) == 1
	case api.ExApp:
		return 2 <= len(e.Args) && len(e.Args) <= 1+api.MaxParams
	case api.ExLet:
		return len(e.Binds) > 0 && areNames(boundBy(e.Binds)) && len(e.Args) == 1
	case api.ExCase:
		return len(e.Args) == 1 && c.mayBeAlts(e.Alts)
	}
	return false
}

func (c constructors) mayBeAlts(l []api.Alt) bool {
	if len(l) == 0 {
		return false
	}
	for i := range l {
		if !mayBeAlt(&l[i]) {
			return false
		}
	}
	if l[len(l)-1].Kind == api.AltElse {
		l = l[:len(l)-1]
	}
	return c.alike(l)
}

// mayBeAlt tells whether an alternative's own fields are as they must be.
func mayBeAlt(a *api.Alt) bool {
	switch a.Kind {
	case api.AltCon:
		return isName(a.Name) && a.Num == 0 && areNames(a.Vars)
	case api.AltInt:
		return a.Name == "" && len(a.Vars) == 0
	case api.AltChar:
		return a.Name == "" && len(a.Vars) == 0 && isChar(a.Num)
	case api.AltElse:
		return a.Name == "" && a.Num == 0 && len(a.Vars) <= 1 && areNames(a.Vars)
	}
	return false
}

// alike tells whether alternatives are of one kind that is not AltElse, of constructors of one type, none twice.
func (c constructors) alike(l []api.Alt) bool {
	type key struct {
		name string
		num  int64
	}
	keys := make([]key, len(l))
	var types []string
	for i, a := range l {
		if a.Kind == api.AltElse || a.Kind != l[0].Kind {
			return false
		}
		keys[i] = key{a.Name, a.Num}
		if con, there := c[a.Name]; there {
			types = append(types, con.Type)
		}
	}
	return distinct(keys) && len(slices.Compact(types)) <= 1
}

// shaped tells whether an expression has as many parts as its constructor or primitive, and its alternatives as many names.
func (c constructors) shaped(e *api.Expr) bool {
	switch e.Kind {
	case api.ExCon:
		return c.takes(e.Name, len(e.Args))
	case api.ExPrim:
		return Arity(e.Name) == len(e.Args)
	}
	for i := range e.Alts {
		if a := &e.Alts[i]; a.Kind == api.AltCon && !c.takes(a.Name, len(a.Vars)) {
			return false
		}
	}
	return true
}

func (c constructors) takes(name string, parts int) bool {
	con, there := c[name]
	return there && con.Arity == parts
}
