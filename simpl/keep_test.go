package simpl_test

import (
	"slices"
	"testing"

	"thunkmill/api"
	"thunkmill/core"
	"thunkmill/model"
	"thunkmill/simpl"
	"thunkmill/testkit"
)

// ran is a program's outcome.
func ran(t *testing.T, p api.Prog, input string, fuel int) api.Outcome {
	t.Helper()
	o, err := model.Run(p, []byte(input), true, fuel)
	if err != api.OK {
		t.Fatalf("Run of %.900s: error %d", core.ProgText(p), err)
	}
	return o
}

// fuels are some, and for each one with which another program that does the same comes as far.
func fuels() map[int]int { return map[int]int{25: 1000, 250: 3000, 1500: 12000} }

// doesTheSame holds a program to doing what another one does.
func doesTheSame(t *testing.T, what string, p, q api.Prog) {
	t.Helper()
	for _, input := range []string{"", "a", "abcd"} {
		for fuel, more := range fuels() {
			a, b := ran(t, p, input, fuel), ran(t, q, input, fuel)
			if a.Kind != api.EndFuel && model.Same(a, b) {
				continue
			}
			if then := ran(t, q, input, more); !model.Follows(a, then) {
				t.Fatalf("%s on %q: %+v with fuel %d, of %.1500s\n%+v with fuel %d, of %.1500s", what, input, a, fuel, core.ProgText(p), then, more, core.ProgText(q))
			}
			if then := ran(t, p, input, more); !model.Follows(b, then) {
				t.Fatalf("%s on %q: %+v with fuel %d, of %.1500s\n%+v with fuel %d, of %.1500s", what, input, b, fuel, core.ProgText(q), then, more, core.ProgText(p))
			}
		}
	}
}

// place is where a rule applies.
type place struct{ bind, at, rule int }

// placesOf are all of a program.
func placesOf(t *testing.T, p api.Prog) []place {
	t.Helper()
	var l []place
	for i, b := range p.Binds {
		for at := range positions(b.E) {
			for _, rule := range allRules() {
				if applies(t, b.E, at, rule) {
					l = append(l, place{i, at, rule})
				}
			}
		}
	}
	return l
}

// rewrittenAt is a program one of whose expressions is rewritten; it may be, and has no new free names.
func rewrittenAt(t *testing.T, p api.Prog, w place) api.Prog {
	t.Helper()
	was := p.Binds[w.bind].E
	q := api.Prog{Cons: p.Cons, Binds: slices.Clone(p.Binds)}
	q.Binds[w.bind].E = rewritten(t, was, w.at, w.rule)
	if err := core.Check(q); err != api.OK {
		t.Fatalf("%s at %d of %s: Check is %d: %s", simpl.Name(w.rule), w.at, brief(was), err, brief(q.Binds[w.bind].E))
	}
	bringsNothing(t, was, q.Binds[w.bind].E)
	return q
}

// bringsNothing holds an expression to having no free names but those of another one.
func bringsNothing(t *testing.T, was, is api.Expr) {
	t.Helper()
	free := core.Free(was)
	for _, name := range core.Free(is) {
		if !slices.Contains(free, name) {
			t.Fatalf("%s is free in %s, not in %s", name, brief(is), brief(was))
		}
	}
}

// chain are programs, each of which comes of the one ahead by a rewriting by chance, and how often each rule was applied.
type chain struct {
	*testkit.Maker
	applied map[int]int
}

// next picks a place, mostly one of a rule that was seldom applied.
func (c chain) next(l []place) place {
	if c.Chance.Intn(3) > 0 {
		return slices.MinFunc(l, func(a, b place) int { return c.applied[a.rule] - c.applied[b.rule] })
	}
	return l[c.Chance.Intn(len(l))]
}

func (c chain) from(t *testing.T, p api.Prog, most int) {
	t.Helper()
	q := p
	for range most {
		l := placesOf(t, q)
		if len(l) == 0 {
			return
		}
		w := c.next(l)
		r := rewrittenAt(t, q, w)
		doesTheSame(t, simpl.Name(w.rule), q, r)
		c.applied[w.rule]++
		q = r
	}
	doesTheSame(t, "all of them", p, q)
}

// P17.3, P17.4: programs made by chance, rewritten one time after the other by rules and at positions by chance.
func TestKept(t *testing.T) {
	m := seeded(173)
	c := chain{m, map[int]int{}}
	for i := range 300 {
		p := m.Program()
		if i%4 == 0 {
			p, _ = m.ByTable()
		}
		c.from(t, p, 20)
	}
	for _, rule := range allRules() {
		if c.applied[rule] < 20 {
			t.Errorf("%s was applied %d times only", simpl.Name(rule), c.applied[rule])
		}
	}
}

// P17.3: programs made by chance, each position and each rule.
func TestKeptEverywhere(t *testing.T) {
	m := seeded(174)
	applied := map[int]int{}
	for i := range 400 {
		p := m.Program()
		if i%2 == 0 {
			p, _ = m.ByTable()
		}
		for _, w := range placesOf(t, p) {
			doesTheSame(t, simpl.Name(w.rule), p, rewrittenAt(t, p, w))
			applied[w.rule]++
		}
	}
	for _, rule := range allRules() {
		if applied[rule] < 25 {
			t.Errorf("%s was applied %d times only", simpl.Name(rule), applied[rule])
		}
	}
}

// P17.3, P17.4: passes over programs made by chance keep what they do, and those that end by themselves leave nothing to which a rule applies.
func TestPassKeeps(t *testing.T) {
	m := seeded(175)
	rewrote := 0
	for i := range 600 {
		p := m.Program()
		if i%4 == 0 {
			p, _ = m.ByTable()
		}
		for _, most := range []int{m.Chance.Intn(20), 1000} {
			q, n, err := simpl.Program(p, most)
			if err != api.OK || core.Check(q) != api.OK {
				t.Fatalf("Program of %.900s, %d: error %d, Check is %d", core.ProgText(p), most, err, core.Check(q))
			}
			doesTheSame(t, "a pass", p, q)
			rewrote += n
		}
		for _, b := range p.Binds {
			e, n := passed(t, b.E, 1000)
			bringsNothing(t, b.E, e)
			if what := nothingApplies(t, e); n < 1000 && what != "" {
				t.Fatalf("behind a pass over %s: %s to %s", brief(b.E), what, brief(e))
			}
		}
	}
	if rewrote < 5000 {
		t.Errorf("there were %d rewritings only", rewrote)
	}
}
