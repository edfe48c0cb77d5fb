package match_test

import (
	"fmt"
	"maps"
	"slices"
	"strconv"
	"strings"
	"testing"

	"thunkmill/api"
	"thunkmill/match"
	"thunkmill/syntax"
)

// A little evaluator, lazily as chapter 15 tells it, of those kinds of expressions to which patterns come; and beside it what patterns mean, without the core.

// thing is a value that a test hands in; of one that is undefined nothing is known: to evaluate it ends all.
type thing struct {
	label     string
	undefined bool
	kind      int // of the expression that it is: a number, a character, a constructor
	num       int64
	con       string
	parts     []thing
}

// value is what something comes to; of a thing its label, too.
type value struct {
	label string
	kind  int
	num   int64
	con   string
	parts []*cell
	apply func(args []*cell) value
}

// cell is evaluated when it is asked for, once.
type cell struct {
	later func() value
	now   *value
}

// world notes which things are evaluated, each once, in order.
type world struct {
	asked []string
}

// ended is how evaluation ends without a value.
type ended string

func (c *cell) force() value {
	if c.now != nil {
		return *c.now
	}
	later := c.later
	if later == nil {
		panic(ended("it waits for itself"))
	}
	c.later = nil
	defer func() { c.later = later }()
	v := later()
	c.now = &v
	return v
}

// cell is that of a thing.
func (w *world) cell(x thing) *cell {
	var parts []*cell
	for _, part := range x.parts {
		parts = append(parts, w.cell(part))
	}
	return &cell{later: func() value {
		if !slices.Contains(w.asked, x.label) {
			w.asked = append(w.asked, x.label)
		}
		if x.undefined {
			panic(ended("undefined " + x.label))
		}
		return value{label: x.label, kind: x.kind, num: x.num, con: x.con, parts: parts}
	}}
}

type environment map[string]*cell

func (env environment) cell(e api.Expr) *cell {
	if e.Kind == api.ExVar {
		return env[e.Name]
	}
	return &cell{later: func() value { return env.eval(e) }}
}

func (env environment) cells(l []api.Expr) []*cell {
	var cells []*cell
	for _, e := range l {
		cells = append(cells, env.cell(e))
	}
	return cells
}

func (env environment) with(names []string, cells []*cell) environment {
	env = maps.Clone(env)
	for i, name := range names {
		env[name] = cells[i]
	}
	return env
}

func (env environment) eval(e api.Expr) value {
	switch e.Kind {
	case api.ExVar:
		return env[e.Name].force()
	case api.ExInt, api.ExChar:
		return value{kind: e.Kind, num: e.Num}
	case api.ExCon:
		return value{kind: e.Kind, con: e.Name, parts: env.cells(e.Args)}
	case api.ExLam:
		return value{kind: e.Kind, apply: func(args []*cell) value { return env.with(e.Params, args).eval(e.Args[0]) }}
	case api.ExApp:
		return env.eval(e.Args[0]).apply(env.cells(e.Args[1:]))
	case api.ExLet:
		env = maps.Clone(env)
		for _, b := range e.Binds {
			env[b.Name] = &cell{later: func() value { return env.eval(b.E) }}
		}
		return env.eval(e.Args[0])
	case api.ExCase:
		return env.choose(env.eval(e.Args[0]), e.Alts)
	}
	text, _ := textOf(e.Args[0])
	panic(ended(e.Name + ": " + text))
}

func (env environment) choose(v value, l []api.Alt) value {
	for _, a := range l {
		switch {
		case a.Kind == api.AltElse,
			a.Kind == api.AltInt && v.kind == api.ExInt && v.num == a.Num,
			a.Kind == api.AltChar && v.kind == api.ExChar && v.num == a.Num,
			a.Kind == api.AltCon && v.kind == api.ExCon && v.con == a.Name:
			return env.with(a.Vars, v.parts).eval(a.E)
		}
	}
	panic(ended("nothing fits"))
}

// fits tells whether a pattern fits a cell, and what its names are.
func fits(p api.Node, c *cell, names environment) bool {
	switch p.Kind {
	case api.NdPVar:
		names[p.Name] = c
		return true
	case api.NdPAny:
		return true
	case api.NdPAs:
		names[p.Name] = c
		return fits(p.Kids[0], c, names)
	case api.NdPLazy:
		for _, name := range namesOf(p.Kids[0]) {
			names[name] = &cell{later: func() value {
				inner := environment{}
				if !fits(p.Kids[0], c, inner) {
					panic(ended("error: no match"))
				}
				return inner[name].force()
			}}
		}
		return true
	}
	v := c.force()
	switch p.Kind {
	case api.NdPInt:
		return v.kind == api.ExInt && v.num == p.Num
	case api.NdPChar:
		return v.kind == api.ExChar && v.num == p.Num
	}
	con, parts := constructor(p)
	if v.kind != api.ExCon || v.con != con {
		return false
	}
	for i := range parts {
		if !fits(parts[i], v.parts[i], names) {
			return false
		}
	}
	return true
}

// thing is one that a pattern fits, but for what chance changes.
func (m *maker) thing(p api.Node, label string) thing {
	x := thing{label: label, kind: api.ExInt, num: 99}
	switch m.Intn(16) {
	case 0:
		x.undefined = true
		return x
	case 1:
		return x
	case 2:
		x.kind, x.con = api.ExCon, "Other"
		return x
	}
	switch p.Kind {
	case api.NdPVar, api.NdPAny:
		x.num = int64(m.Intn(50))
	case api.NdPAs, api.NdPLazy:
		return m.thing(p.Kids[0], label)
	case api.NdPInt:
		x.num = p.Num
	case api.NdPChar:
		x.kind, x.num = api.ExChar, p.Num
	default:
		con, parts := constructor(p)
		x.kind, x.num, x.con = api.ExCon, 0, con
		for i, part := range parts {
			x.parts = append(x.parts, m.thing(part, label+"."+strconv.Itoa(i)))
		}
	}
	return x
}

// outcome is what comes of a value with cells as parts, or of an end: each part's own outcome, and what was evaluated on the way to each.
func (w *world) outcome(of func() value) string {
	var told strings.Builder
	v, end := attempt(of)
	fmt.Fprintln(&told, v.label, v.con, v.num, end, w.asked)
	for _, part := range v.parts {
		v, end := attempt(part.force)
		fmt.Fprintln(&told, " ", v.label, v.con, v.num, end, w.asked)
	}
	return told.String()
}

func attempt(of func() value) (v value, end ended) {
	defer func() {
		if x := recover(); x != nil {
			v, end = value{}, x.(ended)
		}
	}()
	return of(), ""
}

// some are a few of these names, in any order.
func (m *maker) some(names []string) []string {
	names = slices.Clone(names)
	m.Shuffle(len(names), func(i, k int) { names[i], names[k] = names[k], names[i] })
	return names[:m.Intn(len(names)+1)]
}

// got is a constructor of its own with names as parts.
func got(i int, names []string) api.Expr {
	e := api.Expr{Kind: api.ExCon, Name: "Got" + strconv.Itoa(i)}
	for _, name := range names {
		e.Args = append(e.Args, variable(name))
	}
	return e
}

func gotValue(i int, names []string, env environment) value {
	v := value{kind: api.ExCon, con: "Got" + strconv.Itoa(i)}
	for _, name := range names {
		v.parts = append(v.parts, env[name])
	}
	return v
}

// P12.4: a pattern's expression comes to ok, the names being the parts, if it fits, else to no, and asks for as much as that needs, from the left.
func TestWhatPatternsDo(t *testing.T) {
	m := &maker{Rand: seeded(124)}
	seen := counted{}
	for range 12000 {
		m.names = 0
		p := m.pattern(1 + m.Intn(5))
		x, names := m.thing(p, "w"), m.some(namesOf(p))
		no := variable("no")
		if m.Intn(4) == 0 {
			no = match.Failure()
		}
		e, err := match.Pattern(cons(), p, "w", got(0, names), no)
		if err != api.OK {
			t.Fatalf("%v of %v", err, p)
		}
		var w, want world
		nothing := thing{label: "no"}
		ofCore := w.outcome(func() value { return environment{"w": w.cell(x), "no": w.cell(nothing)}.eval(e) })
		ofPattern := want.outcome(func() value {
			env, no := environment{}, environment{"no": want.cell(nothing)}.cell(no)
			if !fits(p, want.cell(x), env) {
				return no.force()
			}
			return gotValue(0, names, env)
		})
		if ofCore != ofPattern {
			text, _ := syntax.Text(p)
			t.Fatalf("%s of %+v: %s, want %s", text, x, ofCore, ofPattern)
		}
		for _, what := range []string{"Got0", "undefined", "no match", "no ", "\n  w"} {
			if strings.Contains(ofCore, what) {
				seen[what]++
			}
		}
	}
	seen.least(t, map[string]int{"Got0": 2000, "undefined": 1000, "no match": 500, "no ": 1000, "\n  w": 1000})
}

// P12.4: rows are asked from the first on, and a row that fails after all goes on with the next one; a function does likewise.
func TestWhatRowsDo(t *testing.T) {
	m := &maker{Rand: seeded(125)}
	seen := counted{}
	for range 6000 {
		width := 1 + m.Intn(3)
		vars := []string{"w", "v", "u"}[:width]
		l, names, guards := m.guarded(width)
		var things []thing
		like := l[m.Intn(len(l))]
		for i, name := range vars {
			things = append(things, m.thing(like.Pats[i], name))
		}
		rows, e := match.Rows(cons(), vars, l)
		function, err := match.Function(cons(), l)
		if e != api.OK || err != api.OK {
			t.Fatalf("%v, %v", e, err)
		}
		whole := api.Expr{Kind: api.ExApp, Args: append([]api.Expr{function}, variable("w"), variable("v"), variable("u"))[:width+1]}
		want := meaning(l, names, guards, things)
		for what, e := range map[string]api.Expr{"Rows": rows, "Function": whole} {
			var w world
			env := environment{}
			for i, x := range things {
				env[vars[i]] = w.cell(x)
			}
			for i, guard := range guards {
				env["g"+strconv.Itoa(i)] = w.cell(guard)
			}
			if told := w.outcome(func() value { return env.eval(e) }); told != want {
				t.Fatalf("%s of %v, %+v: %s, want %s", what, l, things, told, want)
			}
		}
		for _, what := range []string{"Got0", "Got1", "Got2", "undefined", "no match"} {
			if strings.Contains(want, what) {
				seen[what]++
			}
		}
	}
	seen.least(t, map[string]int{"Got0": 500, "Got1": 500, "Got2": 300, "undefined": 500, "no match": 300})
}

// guarded are rows that come to some of their names, some of them asking for a guard first; and the names and guards.
func (m *maker) guarded(width int) (l []api.Row, names [][]string, guards []thing) {
	for i := range 3 {
		m.names = 0
		r := api.Row{Pats: m.patterns(width, 1+m.Intn(4))}
		names = append(names, m.some(namesOf(r.Pats...)))
		r.E = got(i, names[i])
		guard := thing{label: "g" + strconv.Itoa(i), kind: api.ExCon, con: []string{"True", "False", ""}[m.Intn(3)]}
		if guard.con != "" {
			r.E = api.Expr{Kind: api.ExCase, Args: []api.Expr{variable(guard.label)}, Alts: []api.Alt{{Kind: api.AltCon, Name: "True", E: r.E}, {Kind: api.AltCon, Name: "False", E: variable("%no")}}}
		}
		l, guards = append(l, r), append(guards, guard)
	}
	return l, names, guards
}

// meaning is what rows come to, without the core.
func meaning(l []api.Row, names [][]string, guards, things []thing) string {
	var w world
	var cells []*cell
	for _, x := range things {
		cells = append(cells, w.cell(x))
	}
	return w.outcome(func() value {
		for i, r := range l {
			env := environment{}
			if !fitAll(r.Pats, cells, env) {
				continue
			}
			if guards[i].con == "" || w.cell(guards[i]).force().con == "True" {
				return gotValue(i, names[i], env)
			}
		}
		panic(ended("error: no match"))
	})
}

func fitAll(pats []api.Node, cells []*cell, env environment) bool {
	for i, p := range pats {
		if !fits(p, cells[i], env) {
			return false
		}
	}
	return true
}

// P12.4: some of it by hand: how much is evaluated.
func TestHowMuchIsEvaluated(t *testing.T) {
	list := thing{label: "w", kind: api.ExCon, con: "Cons", parts: []thing{{label: "w.0", kind: api.ExInt, num: 1}, {label: "w.1", undefined: true}}}
	for _, x := range []struct{ p, ok, want string }{
		{"x", "(Got x)", "[]"}, {"~(x : y)", "(Got x)", "[]"}, {"x : y", "(Got x)", "[w]"}, {"1 : y", "(Got y)", "[w w.0]"}, {"2 : 3 : y", "(Got y)", "[w w.0]"}, {"1 : 3 : y", "(Got y)", "[w w.0 w.1]"}, {"[]", "(Got)", "[w]"}, {"~(2 : 3 : y)", "(Got)", "[]"}, {"~[1]", "(Got)", "[]"}, {"z@(~(x : y))", "(Got z)", "[]"},
	} {
		e, err := match.Pattern(cons(), pattern(t, x.p), "w", expr(t, x.ok), variable("no"))
		if err != api.OK {
			t.Fatalf("%s: %v", x.p, err)
		}
		var w world
		attempt(func() value { return environment{"w": w.cell(list), "no": w.cell(thing{label: "no"})}.eval(e) })
		w.asked = slices.DeleteFunc(w.asked, func(label string) bool { return label == "no" })
		if asked := fmt.Sprint(w.asked); asked != x.want {
			t.Errorf("%s: evaluated are %s, want %s", x.p, asked, x.want)
		}
	}
}
