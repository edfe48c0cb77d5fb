package lift

import (
	"strconv"
	"strings"

	"thunkmill/api"
	"thunkmill/core"
)

// names makes new ones, of a sign and a number, in order, but for those that are taken.
type names struct {
	sign  string
	last  int
	taken map[int]struct{}
}

func newNames(sign string) *names { return &names{sign: sign, taken: map[int]struct{}{}} }

func (n *names) next() string {
	for {
		n.last++
		if _, there := n.taken[n.last]; !there {
			return n.sign + strconv.Itoa(n.last)
		}
	}
}

// number is that of a name of this sign.
func (n *names) number(name string) (i int, ok bool) {
	digits, ok := strings.CutPrefix(name, n.sign)
	if !ok {
		return 0, false
	}
	i, err := strconv.Atoi(digits)
	return i, err == nil && strconv.Itoa(i) == digits
}

// take keeps a name from being made.
func (n *names) take(name string) {
	if i, ok := n.number(name); ok {
		n.taken[i] = struct{}{}
	}
}

// made tells whether a name that is not taken was made.
func (n *names) made(name string) bool {
	i, ok := n.number(name)
	return ok && 1 <= i && i <= n.last
}

// plan gathers which functions are lifted.
type plan struct {
	binds     *names // of the program
	functions map[string]function
	more      int // so many expressions come to those that there are
}

// function is what becomes of one that is lifted.
type function struct {
	name string   // of its Bind
	free []string // its let's free variables
}

func newPlan(l []api.Bind) *plan {
	p := &plan{binds: newNames("~"), functions: map[string]function{}}
	for i := range l {
		p.binds.take(l[i].Name)
	}
	return p
}

// lift chooses a let.
func (p *plan) lift(l []api.Bind, own uses, free []string) bool {
	p.more-- // the let itself
	for i := range l {
		name := l[i].Name
		p.functions[name] = function{p.binds.next(), free}
		p.more += own[name].calls * len(free)
	}
	return true
}

// willFit tells whether what becomes of these Binds is not too great. That is reckoned ahead, since each argument may become thirty. (It is never nested deeper than they are: what is lifted leaves a let, and an atom stands where another one does.)
func (p *plan) willFit(l []api.Bind) bool {
	n := p.more
	for i := range l {
		n += core.Size(l[i].E)
	}
	return n <= api.MaxNodes
}

// of tells what becomes of a let's function, by its name.
func (p *plan) of(name string) (function, bool) {
	f, ok := p.functions[name]
	return f, ok
}

// lifts tells whether an expression is a let that is lifted.
func (p *plan) lifts(e *api.Expr) bool {
	if e.Kind != api.ExLet {
		return false
	}
	_, ok := p.of(e.Binds[0].Name)
	return ok
}
