package testkit

import (
	"cmp"
	"slices"
	"strconv"
	"strings"

	"thunkmill/api"
	"thunkmill/core"
)

// Cons are the built-in constructors and some others, as they may be.
func Cons() []api.Con {
	return slices.Concat(
		[]api.Con{{Name: "Red", Type: "A"}, {Name: "Green", Type: "A", Tag: 1}, {Name: "Blue", Arity: 1, Type: "A", Tag: 2}},
		core.Builtin()[:4],
		[]api.Con{{Name: "Pair", Arity: 2, Type: "Pair"}},
		core.Builtin()[4:],
	)
}

// Prog is a program of lines name = expression, in any order.
func Prog(lines ...string) api.Prog {
	p := api.Prog{Cons: Cons()}
	for _, line := range lines {
		name, text, _ := strings.Cut(line, " = ")
		p.Binds = append(p.Binds, api.Bind{Name: name, E: Core(text)})
	}
	slices.SortFunc(p.Binds, func(a, b api.Bind) int { return cmp.Compare(a.Name, b.Name) })
	return p
}

// Maker makes programs by chance that mostly do something: what stands where a number is asked for is mostly one.
type Maker struct {
	Chance Chance
	scope  []named
}

// named is a name of a sort.
type named struct {
	name string
	sort Sort
}

// Sort is what a maker's expression is to be.
type Sort int

const (
	Num Sort = iota
	Char
	Truth
	Text  // a list of characters
	Fun   // from a number to a number
	Act   // an action that comes to a number
	Sorts // how many there are
)

// Program is one whose bindings may use one another, and its main mostly acts. Its names are then in scope.
func (m *Maker) Program() api.Prog {
	l := []named{{"n", Num}, {"k", Char}, {"t", Text}, {"fn", Fun}, {"go", Act}, {"main", Act}}
	var lines []string
	for i, n := range l {
		deep := 1 + m.Chance.Intn(4)
		if n.name == "main" {
			deep += 3
		}
		m.scope = nil
		lines = append(lines, n.name+" = "+m.with(m.seenBy(l, i), n.sort, deep))
	}
	m.scope = l
	return Prog(lines...)
}

// Expr is an expression in the scope of the program that was made last.
func (m *Maker) Expr(s Sort, deep int) api.Expr {
	return Core(m.expr(s, deep))
}

// ByTable is a program of expressions as chapter 7's table says, of whatever sort, and what makes more of them, in its scope.
func (m *Maker) ByTable() (api.Prog, Exprs) {
	x := Exprs{Chance: m.Chance, Names: []string{"x", "y", "z", "w"}, Cons: Cons()}
	for _, name := range strings.Fields("add sub mul quot rem eq ne lt le gt ge ceq clt ord chr seq error show ret bind getc putc eof exit seq bind ret putc") {
		x.Prims = append(x.Prims, Prim{Name: name, Arity: core.Arity(name)})
	}
	p := Prog("main = 1", "w = 1", "x = 1", "y = 1", "z = 1")
	for i := range p.Binds {
		p.Binds[i].E = x.Expr(1 + m.Chance.Intn(4))
	}
	return p, x
}

func (m *Maker) pick(l ...string) string { return l[m.Chance.Intn(len(l))] }

func (m *Maker) anySort() Sort { return Sort(m.Chance.Intn(int(Sorts))) }

// fresh is a name; there are few, so that inner ones hide outer ones.
func (m *Maker) fresh() string {
	return m.pick("a", "b", "c", "d", "e", "f", "g", "h")
}

// group is a text in brackets, words with blanks between.
func group(words ...string) string { return "(" + strings.Join(words, " ") + ")" }

func function(name, body string) string { return group("\\", name, "->", body) }

// with makes an expression in a scope of more names.
func (m *Maker) with(l []named, s Sort, deep int) string {
	outer := m.scope
	m.scope = slices.DeleteFunc(slices.Clone(outer), func(n named) bool {
		return slices.ContainsFunc(l, func(x named) bool { return x.name == n.name })
	})
	m.scope = append(m.scope, l...)
	e := m.expr(s, deep)
	m.scope = outer
	return e
}

// expr is an expression of a sort, and now and then of another one.
func (m *Maker) expr(s Sort, deep int) string {
	if m.Chance.Intn(80) == 0 {
		s = m.anySort()
	}
	if deep <= 1 || m.Chance.Intn(5) == 0 {
		return m.leaf(s)
	}
	switch m.Chance.Intn(12) {
	case 0:
		return m.let(s, deep)
	case 1:
		return m.choice(s, deep)
	case 2:
		of, name := m.anySort(), m.fresh()
		return group(function(name, m.with([]named{{name, of}}, s, deep-1)), m.expr(of, deep-1))
	case 3:
		return group("#seq", m.expr(m.anySort(), deep-1), m.expr(s, deep-1))
	}
	return m.made(s, deep-1)
}

func (m *Maker) leaf(s Sort) string {
	var l []string
	for _, n := range m.scope {
		if n.sort == s {
			l = append(l, n.name)
		}
	}
	if len(l) > 0 && m.Chance.Intn(4) > 0 {
		return m.pick(l...)
	}
	switch s {
	case Num:
		return strconv.Itoa(m.Chance.Intn(7) - 2)
	case Char:
		return "'" + strconv.Itoa(97+m.Chance.Intn(4)) + "'"
	case Truth:
		return m.pick("(False)", "(True)")
	case Text:
		return m.pick("(Nil)", "(Cons '97' (Cons '98' (Nil)))", "(Cons '110' (Cons '111' (Nil)))")
	case Fun:
		return m.pick("(\\ a -> a)", "(\\ b -> (#add b 1))", "(\\ a b -> a)", "(\\ a -> (#quot 6 a))")
	}
	return m.pick("(#ret 1)", "(#getc)", "(#putc '97')", "(#eof)", "(#exit 300)", "(#ret 0)", "(#putc '98')")
}

// made is an expression of a sort by what makes this sort.
func (m *Maker) made(s Sort, deep int) string {
	e := func(s Sort) string { return m.expr(s, deep) }
	switch s {
	case Num:
		switch m.Chance.Intn(4) {
		case 0:
			return group("#ord", e(Char))
		case 1:
			return group(m.taken(Fun, deep), e(Num))
		}
		return group(m.pick("#add", "#sub", "#mul", "#quot", "#rem"), e(Num), e(Num))
	case Char:
		return group("#chr", group("#add", "98", e(Num)))
	case Truth:
		if m.Chance.Intn(3) == 0 {
			return group(m.pick("#ceq", "#clt"), e(Char), e(Char))
		}
		return group(m.pick("#eq", "#ne", "#lt", "#le", "#gt", "#ge"), e(Num), e(Num))
	case Text:
		switch m.Chance.Intn(4) {
		case 0:
			return group("#show", e(Num))
		case 1:
			return group("#error", e(Text))
		}
		return group("Cons", e(Char), e(Text))
	case Fun:
		return m.function(deep)
	}
	return m.action(deep)
}

func (m *Maker) function(deep int) string {
	a, b := m.fresh(), "i"
	switch m.Chance.Intn(4) {
	case 0: // of two numbers, with the first one
		return group(function(a+" "+b, m.with([]named{{a, Num}, {b, Num}}, Num, deep)), m.expr(Num, deep))
	case 1: // that calls itself
		body := group("case", b, "of 0 ->", m.expr(Num, deep)+"; _ ->", m.with([]named{{a, Fun}, {b, Num}}, Num, deep))
		return group("let", a, "=", function(b, body), "in", a)
	}
	return function(a, m.with([]named{{a, Num}}, Num, deep))
}

func (m *Maker) action(deep int) string {
	a := m.fresh()
	// Behind an action main may be performed again.
	behind := func(s Sort) string {
		return function(a, m.with([]named{{a, s}, {"main", Act}}, Act, deep))
	}
	switch m.Chance.Intn(6) {
	case 0:
		return group("#putc", m.expr(Char, deep))
	case 1:
		return group("#bind (#getc)", behind(Char))
	case 2:
		return group("#bind (#eof)", behind(Truth))
	case 3:
		return group("#bind", group("#ret", m.expr(Num, deep)), behind(Num))
	case 4:
		return group("#exit", m.expr(Num, deep))
	}
	return group("#bind", m.expr(Act, deep), behind(Sort(m.Chance.Intn(2))*Act))
}

func (m *Maker) let(s Sort, deep int) string {
	var l []named
	for range 1 + m.Chance.Intn(3) {
		n := named{m.fresh(), m.anySort()}
		if !slices.ContainsFunc(l, func(x named) bool { return x.name == n.name }) {
			l = append(l, n)
		}
	}
	var binds []string
	for i, n := range l {
		binds = append(binds, n.name+" = "+m.with(m.seenBy(l, i), n.sort, deep-2))
	}
	return group("let", strings.Join(binds, "; "), "in", m.with(l, s, deep-1))
}

// seenBy are those of some names that one of them may use: mostly those ahead of it, since most of what needs itself is but a loop.
func (m *Maker) seenBy(l []named, i int) []named {
	if m.Chance.Intn(5) == 0 {
		return l
	}
	return l[:i]
}

func (m *Maker) choice(s Sort, deep int) string {
	a, b := m.fresh(), "i"
	e := func(s Sort) string { return m.expr(s, deep-1) }
	of := func(s Sort) string { return m.taken(s, deep-1) }
	switch m.Chance.Intn(7) {
	case 0:
		return group("case", of(Truth), "of True ->", e(s)+"; False ->", e(s))
	case 1:
		return group("case", of(Num), "of 1 ->", e(s)+"; 0 ->", e(s)+";", a, "->", m.with([]named{{a, Num}}, s, deep-1))
	case 2:
		return group("case", of(Char), "of '97' ->", e(s)+"; _ ->", e(s))
	case 3:
		return group("case", of(Text), "of Nil ->", e(s)+"; Cons", a, b, "->", m.with([]named{{a, Char}, {b, Text}}, s, deep-1))
	case 4:
		return group("case", group("Pair", e(Num), e(Text)), "of Pair", a, b, "->", m.with([]named{{a, Num}, {b, Text}}, s, deep-1))
	case 5:
		what := m.anySort()
		return group("case", of(what), "of", a, "->", m.with([]named{{a, what}}, s, deep-1))
	}
	return group("case", of(Num), "of 1 ->", e(s)+"; 2 ->", e(s))
}

// taken is what is to be taken apart or applied: more often than elsewhere a let or a choice, which passes move out of that.
func (m *Maker) taken(s Sort, deep int) string {
	if deep > 1 {
		switch m.Chance.Intn(4) {
		case 0:
			return m.let(s, deep)
		case 1:
			return m.choice(s, deep)
		}
	}
	return m.expr(s, deep)
}
