package match

import (
	"strconv"
	"strings"

	"thunkmill/api"
	"thunkmill/scope"
)

// ahead begins all fresh names. No name of a pattern begins so: it would be no lexeme.
const ahead = "%m"

// fresh makes names that stand nowhere else.
type fresh struct {
	last  int
	taken map[string]struct{} // those that begin as fresh ones do
}

func newFresh(taken ...string) *fresh {
	f := &fresh{taken: map[string]struct{}{}}
	f.avoid(taken...)
	return f
}

// freshFor makes names that stand neither among variables, nor in what comes of rows.
func freshFor(l []api.Row, vars []string) *fresh {
	f := newFresh(vars...)
	for i := range l {
		f.avoidIn(&l[i].E)
	}
	return f
}

func (f *fresh) avoid(taken ...string) {
	for _, name := range taken {
		if strings.HasPrefix(name, ahead) {
			f.taken[name] = struct{}{}
		}
	}
}

// avoidIn avoids all names in an expression, bound ones too.
func (f *fresh) avoidIn(e *api.Expr) {
	f.avoid(e.Name)
	f.avoid(e.Params...)
	for i := range e.Binds {
		f.avoid(e.Binds[i].Name)
	}
	for i := range e.Alts {
		f.avoid(e.Alts[i].Vars...)
	}
	for part := range inner(e) {
		f.avoidIn(part)
	}
}

func (f *fresh) one() string {
	for {
		f.last++
		name := ahead + strconv.Itoa(f.last)
		if _, there := f.taken[name]; !there {
			return name
		}
	}
}

func (f *fresh) several(n int) []string {
	l := make([]string, n)
	for i := range l {
		l[i] = f.one()
	}
	return l
}

// renamed is patterns with all their names fresh.
func (f *fresh) renamed(pats []api.Node) []api.Node {
	l := make([]api.Node, len(pats))
	for i, p := range pats {
		if hasName(&p) {
			p.Name = f.one()
		}
		p.Kids = f.renamed(p.Kids)
		l[i] = p
	}
	return l
}

// hasName tells whether a node gives a pattern one of its names.
func hasName(p *api.Node) bool {
	return len(scope.Names([]api.Node{{Kind: p.Kind, Name: p.Name}})) > 0
}
