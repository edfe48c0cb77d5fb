package core

import (
	"slices"
	"strconv"
	"strings"

	"thunkmill/api"
)

// teller gathers a text.
type teller struct {
	strings.Builder
}

func (t *teller) put(l ...string) {
	for _, s := range l {
		t.WriteString(s)
	}
}

func (t *teller) program(p *api.Prog) {
	for _, c := range p.Cons {
		t.put("data ", c.Type, " ", c.Name, " ", strconv.Itoa(c.Arity), "\n")
	}
	for i := range p.Binds {
		t.bind(&p.Binds[i])
		t.put("\n")
	}
}

func (t *teller) bind(b *api.Bind) {
	t.put(b.Name, " = ")
	t.expr(&b.E)
}

func (t *teller) expr(e *api.Expr) {
	switch e.Kind {
	case api.ExVar:
		t.put(e.Name)
	case api.ExInt:
		t.put(number(e.Num))
	case api.ExChar:
		t.put(char(e.Num))
	case api.ExCon, api.ExLam, api.ExApp, api.ExLet, api.ExCase, api.ExPrim:
		t.put("(")
		t.inBrackets(e)
		t.put(")")
	}
}

func (t *teller) inBrackets(e *api.Expr) {
	switch e.Kind {
	case api.ExCon:
		t.put(e.Name)
		t.exprs(e.Args)
	case api.ExPrim:
		t.put("#", e.Name)
		t.exprs(e.Args)
	case api.ExLam:
		t.put("\\ ", strings.Join(e.Params, " "), " ->")
		t.exprs(e.Args)
	case api.ExApp:
		t.parts(e.Args)
	case api.ExLet:
		t.put("let ")
		t.binds(e.Binds)
		t.put(" in")
		t.exprs(e.Args)
	case api.ExCase:
		t.put("case")
		t.exprs(e.Args)
		t.put(" of ")
		t.alts(e.Alts)
	}
}

// parts tells expressions with a blank between.
func (t *teller) parts(l []api.Expr) {
	if len(l) > 0 {
		t.expr(&l[0])
		t.exprs(l[1:])
	}
}

// exprs tells expressions, each with a blank ahead.
func (t *teller) exprs(l []api.Expr) {
	for i := range l {
		t.put(" ")
		t.expr(&l[i])
	}
}

func (t *teller) binds(l []api.Bind) {
	for i := range l {
		if i > 0 {
			t.put("; ")
		}
		t.bind(&l[i])
	}
}

func (t *teller) alts(l []api.Alt) {
	for i := range l {
		if i > 0 {
			t.put("; ")
		}
		t.put(pattern(&l[i]), " -> ")
		t.expr(&l[i].E)
	}
}

func pattern(a *api.Alt) string {
	switch a.Kind {
	case api.AltCon:
		return strings.Join(slices.Concat([]string{a.Name}, a.Vars), " ")
	case api.AltInt:
		return number(a.Num)
	case api.AltChar:
		return char(a.Num)
	case api.AltElse:
		if len(a.Vars) == 0 {
			return "_"
		}
		return strings.Join(a.Vars, " ")
	}
	return ""
}

func number(n int64) string {
	return strconv.FormatInt(n, 10)
}

func char(n int64) string {
	return "'" + number(n) + "'"
}
