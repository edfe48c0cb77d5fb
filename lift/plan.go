package lift

import (
	"strconv"
	"strings"

	"thunkmill/api"
	"thunkmill/core"
)

// names makes new ones, of a sign and a number, in order, but for those that are taken.
type names struct {
	sign  string
	last  int
	taken map[int]struct{}
}

func newNames(sign string) *names { return &names{sign: sign, taken: map[int]struct{}{}} }

func (n *names) next() string {
	for {
		n.last++
		if _, there := n.taken[n.last]; !there {
			return n.sign + strconv.Itoa(n.last)
		}
	}
}

// number is that of a name of this sign.
func (n *names) number(name string) (i int, ok bool) {
	digits, ok := strings.CutPrefix(name, n.sign)
	if !ok {
		return 0, false
	}
	i, err := strconv.Atoi(digits)
	return i, err == nil && strconv.Itoa(i) == digits
}

// take keeps a name from being made.
func (n *names) take(name string) {
	if i, ok := n.number(name); ok {
		n.taken[i] = struct{}{}
	}
}

// made tells whether a name that is not taken was made.
func (n *names) made(name string) bool {
	i, ok := n.number(name)
	return ok && 1 <= i && i <= n.last
}

// plan gathers which functions are lifted.
type plan struct {
	binds     *names // of the program
	functions map[string]function
	more      int // so many expressions come to those that there are
}

// function is what becomes of one that is lifted.
type function struct {
	name string   // of its Bind
	free []string // its let's free variables
}

func newPlan(l []api.Bind) *plan {
	p := &plan{binds: newNames("~"), functions: map[string]function{}}
	for i := range l {
		p.binds.take(l[i].Name)
	}
	return p
}

// lift chooses a let.
func (p *plan) lift(l []api.Bind, own uses, free []string) bool {
	p.more-- // the let itself
	for i := range l {
		name := l[i].Name
		p.functions[name] = function{p.binds.next(), free}
		p.more += own[name].calls * len(free)
	}
	return true
}

// willFit tells whether what becomes of these Binds is not too great. That is reckoned ahead, since each argument may become thirty. (It is never nested deeper than they are: what is lifted leaves a let, and an atom stands where another one does.)
func (p *plan) willFit(l []api.Bind) bool {
	n := p.more
	for i := range l {
		n += core.Size(l[i].E)
	}
	return n <= api.MaxNodes
}

// of tells what becomes of a let's function, by its name.
func (p *plan) of(name string) (function, bool) {
	f, ok := p.functions[name]
	return f, ok
}

// lifts tells whether an expression is a let that is lifted.
func (p *plan) lifts(e *api.Expr) bool {
	if e.Kind != api.ExLet || len(e.Binds) == 0 {
		return false
	}
	_, ok := p.of(e.Binds[0].Name)
	return ok
}

// stands is what stands where an expression does: a let that is lifted is its body.
func (p *plan) stands(e *api.Expr) *api.Expr {
	for p.lifts(e) {
		e = &e.Args[0]
	}
	return e
}

// applied tells the name that an expression applies, if it is the application of one.
func (p *plan) applied(e *api.Expr) (name string, ok bool) {
	if e.Kind != api.ExApp || len(e.Args) == 0 {
		return "", false
	}
	f := p.stands(&e.Args[0])
	return f.Name, f.Kind == api.ExVar
}

// occurrence tells the name that stands at an expression. An application of a name is told beside the name itself, which is an expression, too.
func (p *plan) occurrence(e *api.Expr) (name string, u use, ok bool) {
	if e.Kind == api.ExVar {
		return e.Name, use{places: 1}, true
	}
	name, ok = p.applied(e)
	n := len(e.Args) - 1
	return name, use{calls: 1, least: n, most: n}, ok
}

// mayLift tells whether a let is known and fits, of which this is how its names stand, and how many free variables it has.
func (p *plan) mayLift(l []api.Bind, found uses, free int) bool {
	for i := range l {
		f, u := p.stands(&l[i].E), found[l[i].Name]
		known := f.Kind == api.ExLam && u.places == u.calls && (u.calls == 0 || u.least >= len(f.Params))
		if !known || max(len(f.Params), u.most)+free > api.MaxParams {
			return false
		}
	}
	return true
}
