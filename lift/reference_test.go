package lift_test

import (
	"cmp"
	"fmt"
	"math/rand"
	"slices"
	"testing"

	"thunkmill/api"
	"thunkmill/core"
	"thunkmill/lift"
	"thunkmill/prep"
	"thunkmill/testkit"
)

// The reference does word by word what the chapter says, on a tree that it changes.

// refParts are the places of the expressions in one.
func refParts(e *api.Expr) []*api.Expr {
	var l []*api.Expr
	for i := range e.Binds {
		l = append(l, &e.Binds[i].E)
	}
	for i := range e.Args {
		l = append(l, &e.Args[i])
	}
	for i := range e.Alts {
		l = append(l, &e.Alts[i].E)
	}
	return l
}

func refDeep(e *api.Expr) int {
	deep := 0
	for _, part := range refParts(e) {
		deep = max(deep, refDeep(part))
	}
	return deep + 1
}

// refStands are how a name stands in an expression: by the number of arguments to which it is applied, and by -1 where it is no function.
func refStands(e *api.Expr, name string) []int {
	var l []int
	parts := refParts(e)
	switch {
	case e.Kind == api.ExVar && e.Name == name:
		l = append(l, -1)
	case e.Kind == api.ExApp && e.Args[0].Kind == api.ExVar && e.Args[0].Name == name:
		l = append(l, len(e.Args)-1)
		parts = parts[1:]
	}
	for _, part := range parts {
		l = append(l, refStands(part, name)...)
	}
	return l
}

// refFree are a let's free variables, beside those names that the program's Binds have.
func refFree(e *api.Expr, binds []string) []string {
	var l []string
	for _, b := range e.Binds {
		l = append(l, core.Free(b.E)...)
	}
	slices.Sort(l)
	return slices.DeleteFunc(slices.Compact(l), func(name string) bool {
		return slices.Contains(binds, name) || slices.ContainsFunc(e.Binds, func(b api.Bind) bool { return b.Name == name })
	})
}

// refKnown tells whether an expression is a let that is known and fits.
func refKnown(e *api.Expr, binds []string) bool {
	if e.Kind != api.ExLet {
		return false
	}
	free := len(refFree(e, binds))
	for _, b := range e.Binds {
		if b.E.Kind != api.ExLam || len(b.E.Params)+free > 32 {
			return false
		}
		for _, n := range refStands(e, b.Name) {
			if n < len(b.E.Params) || n+free > 32 {
				return false
			}
		}
	}
	return true
}

// refCount is how many lets in an expression are so.
func refCount(e *api.Expr, binds []string) int {
	n := 0
	if refKnown(e, binds) {
		n++
	}
	for _, part := range refParts(e) {
		n += refCount(part, binds)
	}
	return n
}

// refLifter has a program's Binds as they were, and those that came.
type refLifter struct {
	was, came []api.Bind
	last      int
}

func (r *refLifter) names() []string {
	return append(namesOf(api.Prog{Binds: r.was}), namesOf(api.Prog{Binds: r.came})...)
}

func (r *refLifter) walk(e *api.Expr) {
	for _, part := range refParts(e) {
		r.walk(part)
	}
	if refKnown(e, r.names()) {
		r.lift(e)
	}
}

func (r *refLifter) lift(e *api.Expr) {
	free := refFree(e, r.names())
	first := len(r.came)
	for _, b := range e.Binds {
		name, number := "", 0
		for name == "" || slices.Contains(r.names(), name) {
			number++
			name = fmt.Sprint("~", number)
		}
		r.came = append(r.came, api.Bind{Name: name})
		refApply(e, b.Name, name, free)
	}
	for i, b := range e.Binds {
		f := b.E
		for j, name := range free {
			r.last++
			own := fmt.Sprint("%", r.last)
			f = core.Subst(f, name, variable(own))
			f.Params = slices.Insert(slices.Clone(f.Params), j, own)
		}
		r.came[first+i].E = f
	}
	*e = e.Args[0]
}

// refApply applies another function in the place of one, to more arguments, wherever that is applied.
func refApply(e *api.Expr, name, other string, more []string) {
	for _, part := range refParts(e) {
		refApply(part, name, other, more)
	}
	if e.Kind != api.ExApp || e.Args[0].Kind != api.ExVar || e.Args[0].Name != name {
		return
	}
	args := list(variable(other))
	for _, x := range more {
		args = append(args, variable(x))
	}
	e.Args = append(args, e.Args[1:]...)
}

// refMarked gives each bound name a mark that no new Bind's name has, and that leaves all names in their order.
func refMarked(e *api.Expr, binds []string) {
	if e.Kind == api.ExVar && !slices.Contains(binds, e.Name) {
		e.Name += "!"
	}
	for i := range e.Params {
		e.Params[i] += "!"
	}
	for i := range e.Binds {
		e.Binds[i].Name += "!"
	}
	for i := range e.Alts {
		for j := range e.Alts[i].Vars {
			e.Alts[i].Vars[j] += "!"
		}
	}
	for _, part := range refParts(e) {
		refMarked(part, binds)
	}
}

// refLifted is a program, lifted.
func refLifted(p api.Prog) (api.Prog, api.Errno) {
	if !prep.Prepared(p) {
		return api.Prog{}, api.ErrArg
	}
	r := refLifter{}
	for _, b := range p.Binds {
		r.was = append(r.was, api.Bind{Name: b.Name, E: core.Copy(b.E)})
	}
	for i := range r.was {
		refMarked(&r.was[i].E, namesOf(p))
	}
	for i := range r.was {
		r.walk(&r.was[i].E)
	}
	q := api.Prog{Cons: p.Cons, Binds: append(r.was, r.came...)}
	slices.SortFunc(q.Binds, func(a, b api.Bind) int { return cmp.Compare(a.Name, b.Name) })
	if core.Check(q) == api.ErrLong {
		return api.Prog{}, api.ErrLong
	}
	return q, api.OK
}

// namer names bound variables by chance, none as another one, or as one of some Binds, in an order that tells nothing of where they stand.
func namer(chance *rand.Rand, binds []string) testkit.Namer {
	last, signs := 0, []string{"~", "~", "v", "v", "x", "Z", "a-", "~~", "~0", "v0"}
	return func(int) string {
		for {
			last++
			name := fmt.Sprint(signs[chance.Intn(len(signs))], last)
			if !slices.Contains(binds, name) {
				return name
			}
		}
	}
}

// renamed is a program whose bound names are others, with Binds by chance whose names are like new ones.
func renamed(chance *rand.Rand, p api.Prog) api.Prog {
	for _, name := range []string{"~1", "~2", "~3", "~5", "~8", "~01", "~", "~1x", "v1", "v2"} {
		if chance.Intn(3) == 0 {
			p = with(p, name+" = "+[]string{"(\\ x -> x)", "1"}[chance.Intn(2)])
		}
	}
	names := namesOf(p)
	n, binds := namer(chance, names), slices.Clone(p.Binds)
	for i, b := range binds {
		binds[i].E = n.Renamed(b.E, testkit.Itself(names))
	}
	p.Binds = binds
	return p
}

// made are prepared programs made by chance, most of them with lets that are known.
func made(t *testing.T, seed int64, n int) []api.Prog {
	t.Helper()
	chance := rand.New(rand.NewSource(seed))
	locals, others := testkit.Locals{Chance: chance}, testkit.Maker{Chance: chance}
	var l []api.Prog
	for i := range n {
		p := locals.Program()
		switch i % 10 {
		case 0:
			p = others.Program()
		case 1:
			p, _ = others.ByTable()
		}
		q, err := prep.Prep(p)
		if err != api.OK {
			t.Fatalf("Prep of %s: error %d", brief(p), err)
		}
		if i%3 > 0 {
			q = renamed(chance, q)
		}
		l = append(l, q)
	}
	return l
}

// P19.1, P19.3: over programs made by chance.
func TestAsReference(t *testing.T) {
	t.Parallel()
	functions := 0
	for _, p := range made(t, 191, 2500) {
		q := lifted(t, p)
		if want, err := refLifted(p); err != api.OK || !core.SameProg(q, want) {
			t.Fatalf("Lift of %s:\n%s\nwant\n%s", brief(p), brief(q), brief(want))
		}
		for _, b := range q.Binds {
			if was, is := deepest(p), refDeep(&b.E); is > was {
				t.Fatalf("%s is nested %d deep, was %d: %s", b.Name, is, was, brief(p))
			}
		}
		functions += len(q.Binds) - len(p.Binds)
	}
	if functions < 8000 {
		t.Errorf("%d functions only were lifted", functions)
	}
}

// deepest is how deep a program is nested.
func deepest(p api.Prog) int {
	deep := 0
	for _, b := range p.Binds {
		deep = max(deep, refDeep(&b.E))
	}
	return deep
}

// P19.2: over programs made by chance, as they are made and when they are lifted, and all expressions in them.
func TestKnownAsReference(t *testing.T) {
	t.Parallel()
	known := map[bool]int{}
	for _, p := range made(t, 192, 250) {
		for _, p := range []api.Prog{p, lifted(t, p)} {
			n := 0
			for _, b := range p.Binds {
				n += refCount(&b.E, namesOf(p))
				knownAsReference(t, p, &b.E, known)
			}
			if got := lift.Count(p); got != n {
				t.Fatalf("Count of %s: %d, want %d", brief(p), got, n)
			}
		}
	}
	if known[true] < 1000 || known[false] < 1000 {
		t.Errorf("%d lets were known, %d not", known[true], known[false])
	}
}

// knownAsReference holds Known to what it is to tell of an expression and all that is in it, and counts the lets.
func knownAsReference(t *testing.T, p api.Prog, e *api.Expr, known map[bool]int) {
	t.Helper()
	want := refKnown(e, namesOf(p))
	if is := lift.Known(p, *e); is != want {
		t.Fatalf("Known of %s: %v", core.Text(*e), is)
	}
	if e.Kind == api.ExLet {
		known[want]++
	}
	for _, part := range refParts(e) {
		knownAsReference(t, p, part, known)
	}
}
