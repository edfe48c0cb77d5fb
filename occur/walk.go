package occur

import (
	"math"
	"sort"

	"thunkmill/api"
)

// binder is a bound name, and what was met of it in its scope.
type binder struct {
	name    string
	occ     int
	places  int     // at how many places it stands
	last    int     // the number of the last one of them
	lambdas int     // how many lambdas there are around its scope
	level   int     // how many binders are in scope ahead of it
	hidden  *binder // the one whose name it hides, if there is one
}

// part is an expression that is being gone through. Places are numbered as they are met, those of all names together, so that by an earlier place's number it can be told which of the parts have it.
type part struct {
	first int // the number of the first place in it
	alts  int // the number of the first place in its alternatives
}

// notYet is the number of a place that is met later than all others.
const notYet = math.MaxInt

// walk goes once through an expression, since a walk for each binder would take too long in great ones.
type walk struct {
	parts   []part // from the outermost to the innermost
	lambdas int    // how many of them are lambdas
	met     int    // how many places were met
	named   map[string]*binder
	inScope []*binder // the outer ones ahead
	asked   []*binder // those of the answer, in order
}

func newWalk() *walk {
	return &walk{named: map[string]*binder{}}
}

func (w *walk) expr(e *api.Expr) {
	outer := len(w.inScope)
	w.enter(e)
	if e.Kind == api.ExVar {
		w.meet(e.Name)
	}
	for i := range e.Binds {
		w.expr(&e.Binds[i].E)
	}
	for i := range e.Args {
		w.expr(&e.Args[i])
	}
	w.alts(e.Alts)
	w.unbind(outer)
	w.leave(e)
}

// enter goes into an expression, and binds what it binds in all of it, whatever its kind.
func (w *walk) enter(e *api.Expr) {
	w.parts = append(w.parts, part{first: w.met, alts: notYet})
	if e.Kind == api.ExLam {
		w.lambdas++
	}
	outer := len(w.inScope)
	w.bindAll(e.Params, outer)
	for i := range e.Binds {
		w.bind(e.Binds[i].Name, outer)
	}
}

func (w *walk) leave(e *api.Expr) {
	w.parts = w.parts[:len(w.parts)-1]
	if e.Kind == api.ExLam {
		w.lambdas--
	}
}

func (w *walk) alts(l []api.Alt) {
	w.parts[len(w.parts)-1].alts = w.met
	for i := range l {
		outer := len(w.inScope)
		w.bindAll(l[i].Vars, outer)
		w.expr(&l[i].E)
		w.unbind(outer)
	}
}

// bind binds a name in a scope that has so many binders outside of it. Twice the same name in one scope is one binder that is asked for twice.
func (w *walk) bind(name string, outer int) {
	b := w.named[name]
	if b == nil || b.level < outer {
		b = &binder{name: name, occ: dead, lambdas: w.lambdas, level: len(w.inScope), hidden: b}
		w.named[name] = b
		w.inScope = append(w.inScope, b)
	}
	w.asked = append(w.asked, b)
}

func (w *walk) bindAll(names []string, outer int) {
	for _, name := range names {
		w.bind(name, outer)
	}
}

// unbind goes back to a scope that has so many binders.
func (w *walk) unbind(outer int) {
	for _, b := range w.inScope[outer:] {
		w.named[b.name] = b.hidden
	}
	w.inScope = w.inScope[:outer]
}

// meet puts a variable's place together with those that were met of its name. Only the last one of them is held against it: where an earlier one is not apart from it, two neighbours from that one on are not apart either, so that the occurrence comes to many all the same.
func (w *walk) meet(name string) {
	if b := w.named[name]; b != nil {
		one := once
		if w.lambdas > b.lambdas {
			one = lam
		}
		if w.parted(b.last) {
			b.occ = apart[b.occ][one]
		} else {
			b.occ = together[b.occ][one]
		}
		b.places++
		b.last = w.met
	}
	w.met++
}

// parted tells whether an earlier place is in another alternative of one case than what is gone through now.
func (w *walk) parted(place int) bool {
	inner := sort.Search(len(w.parts), func(i int) bool { return w.parts[i].first > place }) - 1
	return w.parts[inner].alts <= place
}
