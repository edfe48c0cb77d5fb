package model_test

import (
	"fmt"
	"math/rand"
	"slices"
	"strings"

	"thunkmill/api"
	"thunkmill/core"
	"thunkmill/testkit"
)

// maker makes programs by chance that mostly do something: what stands where a number is asked for is mostly one.
type maker struct {
	*rand.Rand
	scope []named
}

// named is a name of a sort.
type named struct {
	name string
	sort sort
}

// sort is what a maker's expression is to be.
type sort int

const (
	num sort = iota
	char
	truth
	text  // a list of characters
	fun   // from a number to a number
	act   // an action that comes to a number
	sorts // how many there are
)

func seeded(seed int64) *maker { return &maker{Rand: rand.New(rand.NewSource(seed))} }

func (m *maker) pick(l ...string) string { return l[m.Intn(len(l))] }

// fresh is a name; there are few, so that inner ones hide outer ones.
func (m *maker) fresh() string {
	return m.pick("a", "b", "c", "d", "e", "f", "g", "h")
}

// with makes an expression in a scope of more names.
func (m *maker) with(l []named, s sort, deep int) string {
	outer := m.scope
	m.scope = slices.DeleteFunc(slices.Clone(outer), func(n named) bool {
		return slices.ContainsFunc(l, func(x named) bool { return x.name == n.name })
	})
	m.scope = append(m.scope, l...)
	e := m.expr(s, deep)
	m.scope = outer
	return e
}

// expr is an expression of a sort, and now and then of another one.
func (m *maker) expr(s sort, deep int) string {
	if m.Intn(80) == 0 {
		s = sort(m.Intn(int(sorts)))
	}
	if deep <= 1 || m.Intn(5) == 0 {
		return m.leaf(s)
	}
	switch m.Intn(12) {
	case 0:
		return m.let(s, deep)
	case 1:
		return m.choice(s, deep)
	case 2:
		other := sort(m.Intn(int(sorts)))
		name := m.fresh()
		return fmt.Sprintf("((\\ %s -> %s) %s)", name, m.with([]named{{name, other}}, s, deep-1), m.expr(other, deep-1))
	case 3:
		return fmt.Sprintf("(#seq %s %s)", m.expr(sort(m.Intn(int(sorts))), deep-1), m.expr(s, deep-1))
	}
	return m.made(s, deep-1)
}

func (m *maker) leaf(s sort) string {
	var l []string
	for _, n := range m.scope {
		if n.sort == s {
			l = append(l, n.name)
		}
	}
	if len(l) > 0 && m.Intn(4) > 0 {
		return m.pick(l...)
	}
	switch s {
	case num:
		return fmt.Sprint(m.Intn(7) - 2)
	case char:
		return fmt.Sprintf("'%d'", 97+m.Intn(4))
	case truth:
		return m.pick("(False)", "(True)")
	case text:
		return m.pick("(Nil)", chars("ab"), chars("no"))
	case fun:
		return m.pick("(\\ a -> a)", "(\\ b -> (#add b 1))", "(\\ a b -> a)", "(\\ a -> (#quot 6 a))")
	}
	return m.pick("(#ret 1)", "(#getc)", "(#putc '97')", "(#eof)", "(#exit 300)", "(#ret 0)", "(#putc '98')")
}

// made is an expression of a sort by what makes this sort.
func (m *maker) made(s sort, deep int) string {
	e := func(s sort) string { return m.expr(s, deep) }
	switch s {
	case num:
		switch m.Intn(4) {
		case 0:
			return fmt.Sprintf("(#ord %s)", e(char))
		case 1:
			return fmt.Sprintf("(%s %s)", e(fun), e(num))
		}
		return fmt.Sprintf("(#%s %s %s)", m.pick("add", "sub", "mul", "quot", "rem"), e(num), e(num))
	case char:
		return fmt.Sprintf("(#chr (#add 98 %s))", e(num))
	case truth:
		if m.Intn(3) == 0 {
			return fmt.Sprintf("(#%s %s %s)", m.pick("ceq", "clt"), e(char), e(char))
		}
		return fmt.Sprintf("(#%s %s %s)", m.pick("eq", "ne", "lt", "le", "gt", "ge"), e(num), e(num))
	case text:
		switch m.Intn(4) {
		case 0:
			return fmt.Sprintf("(#show %s)", e(num))
		case 1:
			return fmt.Sprintf("(#error %s)", e(text))
		}
		return fmt.Sprintf("(Cons %s %s)", e(char), e(text))
	case fun:
		return m.function(deep)
	}
	return m.action(deep)
}

func (m *maker) function(deep int) string {
	a, b := m.fresh(), "i"
	switch m.Intn(4) {
	case 0: // of two numbers, with the first one
		return fmt.Sprintf("((\\ %s %s -> %s) %s)", a, b, m.with([]named{{a, num}, {b, num}}, num, deep), m.expr(num, deep))
	case 1: // that calls itself
		return fmt.Sprintf("(let %s = (\\ %s -> (case %s of 0 -> %s; _ -> %s)) in %s)", a, b, b, m.expr(num, deep), m.with([]named{{a, fun}, {b, num}}, num, deep), a)
	}
	return fmt.Sprintf("(\\ %s -> %s)", a, m.with([]named{{a, num}}, num, deep))
}

func (m *maker) action(deep int) string {
	a := m.fresh()
	// Behind an action main may be performed again.
	behind := func(s sort) string { return m.with([]named{{a, s}, {"main", act}}, act, deep) }
	switch m.Intn(6) {
	case 0:
		return fmt.Sprintf("(#putc %s)", m.expr(char, deep))
	case 1:
		return fmt.Sprintf("(#bind (#getc) (\\ %s -> %s))", a, behind(char))
	case 2:
		return fmt.Sprintf("(#bind (#eof) (\\ %s -> %s))", a, behind(truth))
	case 3:
		return fmt.Sprintf("(#bind (#ret %s) (\\ %s -> %s))", m.expr(num, deep), a, behind(num))
	case 4:
		return fmt.Sprintf("(#exit %s)", m.expr(num, deep))
	}
	return fmt.Sprintf("(#bind %s (\\ %s -> %s))", m.expr(act, deep), a, behind(sort(m.Intn(2))*act))
}

func (m *maker) let(s sort, deep int) string {
	var l []named
	for range 1 + m.Intn(3) {
		n := named{m.fresh(), sort(m.Intn(int(sorts)))}
		if !slices.ContainsFunc(l, func(x named) bool { return x.name == n.name }) {
			l = append(l, n)
		}
	}
	var binds []string
	for i, n := range l {
		binds = append(binds, n.name+" = "+m.with(m.seenBy(l, i), n.sort, deep-2))
	}
	return fmt.Sprintf("(let %s in %s)", strings.Join(binds, "; "), m.with(l, s, deep-1))
}

// seenBy are those of some names that one of them may use: mostly those ahead of it, since most of what needs itself is but a loop.
func (m *maker) seenBy(l []named, i int) []named {
	if m.Intn(5) == 0 {
		return l
	}
	return l[:i]
}

func (m *maker) choice(s sort, deep int) string {
	a, b := m.fresh(), "i"
	switch m.Intn(6) {
	case 0:
		return fmt.Sprintf("(case %s of True -> %s; False -> %s)", m.expr(truth, deep-1), m.expr(s, deep-1), m.expr(s, deep-1))
	case 1:
		return fmt.Sprintf("(case %s of 1 -> %s; 0 -> %s; %s -> %s)", m.expr(num, deep-1), m.expr(s, deep-1), m.expr(s, deep-1), a, m.with([]named{{a, num}}, s, deep-1))
	case 2:
		return fmt.Sprintf("(case %s of '97' -> %s; _ -> %s)", m.expr(char, deep-1), m.expr(s, deep-1), m.expr(s, deep-1))
	case 3:
		return fmt.Sprintf("(case %s of Nil -> %s; Cons %s %s -> %s)", m.expr(text, deep-1), m.expr(s, deep-1), a, b, m.with([]named{{a, char}, {b, text}}, s, deep-1))
	case 4:
		return fmt.Sprintf("(case (Pair %s %s) of Pair %s %s -> %s)", m.expr(num, deep-1), m.expr(text, deep-1), a, b, m.with([]named{{a, num}, {b, text}}, s, deep-1))
	}
	return fmt.Sprintf("(case %s of 1 -> %s; 2 -> %s)", m.expr(num, deep-1), m.expr(s, deep-1), m.expr(s, deep-1))
}

// program is one whose bindings may use one another, and its main mostly acts. Its names are then in scope.
func (m *maker) program() api.Prog {
	l := []named{{"n", num}, {"k", char}, {"t", text}, {"fn", fun}, {"go", act}, {"main", act}}
	var lines []string
	for i, n := range l {
		deep := 1 + m.Intn(4)
		if n.name == "main" {
			deep += 3
		}
		m.scope = nil
		lines = append(lines, n.name+" = "+m.with(m.seenBy(l, i), n.sort, deep))
	}
	m.scope = l
	return prog(lines...)
}

// byTable makes expressions as chapter 7's table says, of whatever sort; their names are those of a program that has them all.
func (m *maker) byTable() (api.Prog, testkit.Exprs) {
	x := testkit.Exprs{Chance: m.Rand, Names: []string{"x", "y", "z", "w"}, Cons: cons()}
	for _, name := range primitives() {
		x.Prims = append(x.Prims, testkit.Prim{Name: name, Arity: core.Arity(name)})
	}
	p := prog("main = 1", "w = 1", "x = 1", "y = 1", "z = 1")
	for i := range p.Binds {
		p.Binds[i].E = x.Expr(1 + m.Intn(4))
	}
	return p, x
}

func primitives() []string {
	return strings.Fields("add sub mul quot rem eq ne lt le gt ge ceq clt ord chr seq error show ret bind getc putc eof exit seq bind ret putc")
}
