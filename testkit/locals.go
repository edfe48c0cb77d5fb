package testkit

import (
	"slices"
	"strconv"
	"strings"

	"thunkmill/api"
)

// Locals makes programs by chance whose lets are mostly of functions that are only called.
type Locals struct {
	Chance Chance
	last   int
}

// local is a name in scope; a number has no parameters.
type local struct {
	name   string
	params int
}

// Program is one that mostly ends.
func (l *Locals) Program() api.Prog {
	l.last = 0
	scope := []local{{"n", 0}, {"g", 2}, {"h", 1}}
	return Prog(
		"n = "+l.number(scope[1:], 2),
		"g = "+l.function(local{"g", 2}, scope[:1], scope[2:], 3),
		"h = "+l.function(local{"h", 1}, scope[:1], nil, 3),
		"main = "+l.action(scope, 6),
	)
}

func (l *Locals) pick(of ...string) string { return of[l.Chance.Intn(len(of))] }

// name is a new one, whose order tells nothing of where it is bound.
func (l *Locals) name(sign string) string {
	l.last++
	return sign + string(rune('a'+l.Chance.Intn(26))) + strconv.Itoa(l.last)
}

// action ends a run, and reads and writes ahead of that.
func (l *Locals) action(scope []local, deep int) string {
	if deep > 1 {
		switch l.Chance.Intn(8) {
		case 0:
			return group("#bind (#getc)", function(l.name("c"), l.action(scope, deep-1)))
		case 1:
			c := l.name("c")
			return group("#bind (#getc)", function(c, group("case", c, "of '97' ->", l.action(scope, deep-1)+"; _ ->", l.action(scope, deep-1))))
		case 2:
			return group("#bind", group("#putc (#chr (#add 97 (#rem", l.number(scope, deep-1), "5)))"), function(l.name("u"), l.action(scope, deep-1)))
		case 3, 4, 5:
			return l.let(scope, deep-1, func(inner []local) string { return l.action(inner, deep-1) })
		case 6:
			x := l.name("x")
			return group("#bind", group("#ret", l.number(scope, deep-1)), function(x, l.action(append(slices.Clone(scope), local{x, 0}), deep-1)))
		}
	}
	return group("#exit", l.number(scope, deep))
}

// let is one of some functions, and now and then of a number, too.
func (l *Locals) let(scope []local, deep int, body func(inner []local) string) string {
	var own []local
	for range 1 + l.Chance.Intn(3)*l.Chance.Intn(2) {
		own = append(own, local{l.name("f"), 1 + l.Chance.Intn(3)})
	}
	var binds []string
	for _, f := range own {
		binds = append(binds, f.name+" = "+l.right(f, scope, own, deep))
	}
	if l.Chance.Intn(8) == 0 {
		own = append(own, local{l.name("x"), 0})
		binds = append(binds, own[len(own)-1].name+" = "+l.number(scope, deep))
	}
	return group("let", strings.Join(binds, "; "), "in", body(append(slices.Clone(scope), own...)))
}

// right is a function as a let's right side, now and then with lets around it.
func (l *Locals) right(f local, scope, own []local, deep int) string {
	if l.Chance.Intn(8) > 0 {
		return l.function(f, scope, own, deep)
	}
	return l.let(scope, 1, func(inner []local) string { return l.right(f, inner, own, deep-1) })
}

// function is one that calls those of its let for less than it is called for itself.
func (l *Locals) function(f local, scope, own []local, deep int) string {
	inner := slices.Clone(scope)
	var params []string
	for range f.params {
		params = append(params, l.name("x"))
		inner = append(inner, local{params[len(params)-1], 0})
	}
	body := l.number(inner, deep-l.Chance.Intn(2))
	if l.Chance.Intn(2) == 0 {
		less := group("#sub", params[0], "1")
		more := l.number(inner, 2)
		for range 1 + l.Chance.Intn(2)*l.Chance.Intn(2) {
			if len(own) > 0 {
				more = group("#add", more, l.call(own[l.Chance.Intn(len(own))], less, inner, 1))
			}
		}
		body = group("case", group("#le", params[0], "0"), "of True ->", body+"; False ->", more)
	}
	return group("\\", strings.Join(params, " "), "->", body)
}

// head is a function where it is applied, now and then with lets around it.
func (l *Locals) head(f local, scope []local) string {
	if l.Chance.Intn(10) > 0 {
		return f.name
	}
	return l.let(scope, 1, func(inner []local) string { return l.head(f, inner) })
}

// call is the application of a function, mostly to as many arguments as it has parameters.
func (l *Locals) call(f local, first string, scope []local, deep int) string {
	words := []string{l.head(f, scope), first}
	n := f.params
	switch l.Chance.Intn(40) {
	case 0:
		n--
	case 1:
		n++
	}
	for len(words) <= n {
		words = append(words, l.number(scope, deep-1))
	}
	return group(words...)
}

func (l *Locals) number(scope []local, deep int) string {
	f := scope[max(l.Chance.Intn(len(scope)), l.Chance.Intn(len(scope)))]
	if deep <= 1 {
		if f.params == 0 && l.Chance.Intn(4) > 0 {
			return f.name
		}
		return strconv.Itoa(l.Chance.Intn(4))
	}
	e := func() string { return l.number(scope, deep-1) }
	switch l.Chance.Intn(14) {
	case 0, 1, 2, 3:
		if f.params > 0 {
			return l.call(f, l.number(scope, 1), scope, deep-1)
		}
		return group("#add", f.name, e())
	case 4, 5, 6:
		return l.let(scope, deep-1, func(inner []local) string {
			f := inner[len(scope)+l.Chance.Intn(len(inner)-len(scope))]
			if f.params == 0 || l.Chance.Intn(4) == 0 {
				return l.number(inner, deep-1)
			}
			return l.call(f, l.number(inner, 1), inner, deep-1)
		})
	case 7:
		x := l.name("x")
		return group("case", e(), "of 0 ->", e()+"; 1 ->", e()+";", x, "->", l.number(append(slices.Clone(scope), local{x, 0}), deep-1))
	case 8:
		x, y := l.name("x"), l.name("y")
		inner := append(slices.Clone(scope), local{x, 0}, local{y, 0})
		return group("case (Pair", e(), e()+") of Pair", x, y, "->", l.number(inner, deep-1))
	case 9:
		x := l.name("x")
		return group(function(x, l.number(append(slices.Clone(scope), local{x, 0}), deep-1)), e())
	case 10:
		return l.seldom(f, e)
	}
	return group(l.pick("#add", "#sub", "#mul", "#quot"), e(), e())
}

// seldom is what keeps a function from being only called, or nearly does.
func (l *Locals) seldom(f local, e func() string) string {
	switch l.Chance.Intn(5) {
	case 0:
		return group("#seq", f.name, e())
	case 1:
		return group(function(l.name("x"), e()), f.name)
	case 2:
		return group("case", f.name, "of _ ->", e())
	case 3:
		g := l.name("f")
		return group(group("let", g, "=", function(l.name("x"), e()), "in", g), e())
	}
	g := l.name("f")
	return group(group("case", e(), "of 0 ->", function(l.name("x"), e())+";", l.name("x"), "->", group("let", g, "=", function(l.name("x"), e()), "in", group(g, "1"))) + " 1")
}
