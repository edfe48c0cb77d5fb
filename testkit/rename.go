package testkit

import (
	"maps"
	"slices"
	"strconv"

	"thunkmill/api"
)

// Namer tells a bound variable's new name, from how many names there are around it.
type Namer func(around int) string

// Unlike is a namer that tells no name twice.
func Unlike() Namer {
	last := 0
	return func(int) string {
		last++
		return "u" + strconv.Itoa(last)
	}
}

// ByLevel is a namer that tells one name of all that have as many names around them, so that names come again side by side.
func ByLevel() Namer {
	return func(around int) string { return "l" + strconv.Itoa(around) }
}

// Called is a variable's new name.
type Called struct {
	Name string
}

// Itself tells of each name that it stays.
func Itself(names []string) map[string]Called {
	in := map[string]Called{}
	for _, name := range names {
		in[name] = Called{name}
	}
	return in
}

// Renamed is an expression with other names of its bound variables; in tells the new names of those around it.
func (n Namer) Renamed(e api.Expr, in map[string]Called) api.Expr {
	if e.Kind == api.ExVar {
		e.Name = in[e.Name].Name
	}
	e.Params, in = n.bind(e.Params, in)
	var names []string
	for _, b := range e.Binds {
		names = append(names, b.Name)
	}
	names, in = n.bind(names, in)
	e.Binds = slices.Clone(e.Binds)
	for i, b := range e.Binds {
		e.Binds[i] = api.Bind{Name: names[i], E: n.Renamed(b.E, in)}
	}
	e.Args = slices.Clone(e.Args)
	for i := range e.Args {
		e.Args[i] = n.Renamed(e.Args[i], in)
	}
	e.Alts = slices.Clone(e.Alts)
	for i, a := range e.Alts {
		vars, within := n.bind(a.Vars, in)
		e.Alts[i].Vars, e.Alts[i].E = vars, n.Renamed(a.E, within)
	}
	return e
}

// bind tells the new names of some names, and of all that are in scope with them.
func (n Namer) bind(names []string, in map[string]Called) ([]string, map[string]Called) {
	in = maps.Clone(in)
	var l []string
	for _, name := range names {
		delete(in, name)
	}
	// Those that are hidden are counted too, so that no new name hides one that is still asked for.
	around := len(in) + 8*len(names)
	for _, name := range names {
		around++
		for slices.Contains(slices.Collect(maps.Values(in)), Called{n(around)}) {
			around++
		}
		in[name] = Called{n(around)}
		l = append(l, in[name].Name)
	}
	return l, in
}
