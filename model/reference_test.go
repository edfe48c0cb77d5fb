package model_test

import (
	"fmt"
	"maps"

	"thunkmill/api"
	"thunkmill/core"
	"thunkmill/prim"
)

// A reference for runs of little fuel: the chapter's sentences one by one, by functions that call one another, with environments that are copied.

type refCell struct {
	v   any // nil, as long as there is no value
	e   *api.Expr
	env refEnv // nil, while it is being evaluated
}

type refEnv map[string]*refCell

type refCon struct {
	name  string
	parts []*refCell
}

type refFun struct {
	e    *api.Expr
	env  refEnv
	args []*refCell
}

type refAct struct {
	name  string
	parts []*refCell
}

// refEnd is how a reference's run ends.
type refEnd api.Outcome

type refRun struct {
	fuel, steps int
	input       []byte
	ended       bool
	used        int
	out         []byte
}

func refWrong(what int) { panic(refEnd{Kind: api.EndWrong, Wrong: what}) }

func refError(text string) { panic(refEnd{Kind: api.EndError, Text: text}) }

func (r *refRun) step() {
	if r.fuel == r.steps {
		panic(refEnd{Kind: api.EndFuel})
	}
	r.steps++
}

func (r *refRun) force(c *refCell) any {
	if c.v == nil {
		env := c.env
		if env == nil {
			panic(refEnd{Kind: api.EndLoop})
		}
		c.env = nil
		c.v = r.eval(c.e, env)
	}
	return c.v
}

func (env refEnv) cells(l []api.Expr) []*refCell {
	cells := make([]*refCell, len(l))
	for i := range l {
		cells[i] = &refCell{e: &l[i], env: env}
		if l[i].Kind == api.ExVar {
			cells[i] = env[l[i].Name]
		}
	}
	return cells
}

func (env refEnv) with(names []string, cells []*refCell) refEnv {
	env = maps.Clone(env)
	for i, name := range names {
		env[name] = cells[i]
	}
	return env
}

func (env refEnv) letting(l []api.Bind) refEnv {
	env = maps.Clone(env)
	for i := range l {
		env[l[i].Name] = &refCell{e: &l[i].E, env: env}
	}
	return env
}

func (r *refRun) eval(e *api.Expr, env refEnv) any {
	r.step()
	switch e.Kind {
	case api.ExVar:
		return r.force(env[e.Name])
	case api.ExInt:
		return e.Num
	case api.ExChar:
		return byte(e.Num)
	case api.ExCon:
		return refCon{e.Name, env.cells(e.Args)}
	case api.ExLam:
		return refFun{e: e, env: env}
	case api.ExApp:
		return r.apply(r.eval(&e.Args[0], env), env.cells(e.Args[1:]))
	case api.ExLet:
		return r.eval(&e.Args[0], env.letting(e.Binds))
	case api.ExCase:
		return r.choose(r.eval(&e.Args[0], env), e.Alts, env)
	}
	return r.prim(e, env)
}

func (r *refRun) apply(v any, cells []*refCell) any {
	f, ok := v.(refFun)
	if !ok {
		refWrong(api.WrongApply)
	}
	var all []*refCell
	all = append(append(all, f.args...), cells...)
	n := len(f.e.Params)
	if len(all) < n {
		return refFun{f.e, f.env, all}
	}
	of := r.eval(&f.e.Args[0], f.env.with(f.e.Params, all[:n]))
	if len(all) == n {
		return of
	}
	return r.apply(of, all[n:])
}

func (r *refRun) choose(v any, l []api.Alt, env refEnv) any {
	con, isCon := v.(refCon)
	num, isInt := v.(int64)
	char, isChar := v.(byte)
	for i := range l {
		a := &l[i]
		switch {
		case a.Kind == api.AltCon && isCon && con.name == a.Name:
			return r.eval(&a.E, env.with(a.Vars, con.parts))
		case a.Kind == api.AltInt && isInt && num == a.Num, a.Kind == api.AltChar && isChar && int64(char) == a.Num:
			return r.eval(&a.E, env)
		case a.Kind == api.AltElse:
			return r.eval(&a.E, env.with(a.Vars, []*refCell{{v: v}}))
		}
	}
	if kind := l[0].Kind; kind == api.AltCon && isCon || kind == api.AltInt && isInt || kind == api.AltChar && isChar {
		refError("no match")
	}
	refWrong(api.WrongCase)
	return nil
}

func (r *refRun) prim(e *api.Expr, env refEnv) any {
	switch e.Name {
	case "ret", "bind", "getc", "putc", "eof", "exit":
		return refAct{e.Name, env.cells(e.Args)}
	case "seq":
		r.eval(&e.Args[0], env)
		return r.eval(&e.Args[1], env)
	case "show":
		return refText(fmt.Sprint(refIs[int64](r.eval(&e.Args[0], env))))
	case "error":
		refError(r.text(r.eval(&e.Args[0], env)))
	}
	var args []api.Prim
	for i := range e.Args {
		v := r.eval(&e.Args[i], env)
		if prim.Takes(e.Name, i) == api.PrimInt {
			args = append(args, api.Prim{Kind: api.PrimInt, Num: refIs[int64](v)})
		} else {
			args = append(args, api.Prim{Kind: api.PrimChar, Num: int64(refIs[byte](v))})
		}
	}
	p, _ := prim.Apply(e.Name, args)
	switch p.Kind {
	case api.PrimError:
		refError(p.Text)
	case api.PrimBool:
		return refCon{name: []string{"False", "True"}[p.Num]}
	case api.PrimChar:
		return byte(p.Num)
	}
	return p.Num
}

// refIs is a value that must be a number, a character.
func refIs[T any](v any) T {
	x, ok := v.(T)
	if !ok {
		refWrong(api.WrongPrim)
	}
	return x
}

func refText(s string) any {
	if s == "" {
		return refCon{name: "Nil"}
	}
	return refCon{"Cons", []*refCell{{v: s[0]}, {v: refText(s[1:])}}}
}

func (r *refRun) text(v any) string {
	s := ""
	for {
		l, ok := v.(refCon)
		if !ok || l.name != "Nil" && l.name != "Cons" {
			refWrong(api.WrongPrim)
		}
		if l.name == "Nil" {
			return s
		}
		s += string([]byte{refIs[byte](r.force(l.parts[0]))})
		if len(s) == 1024 {
			return s
		}
		v = r.force(l.parts[1])
	}
}

func (r *refRun) perform(v any) *refCell {
	act, ok := v.(refAct)
	if !ok {
		refWrong(api.WrongAction)
	}
	r.step()
	switch act.name {
	case "ret":
		return act.parts[0]
	case "bind":
		c := r.perform(r.force(act.parts[0]))
		return r.perform(r.apply(r.force(act.parts[1]), []*refCell{c}))
	case "putc":
		r.out = append(r.out, refIs[byte](r.force(act.parts[0])))
		return &refCell{v: refCon{name: "Unit"}}
	case "exit":
		panic(refEnd{Kind: api.EndExit, Code: int(uint8(refIs[int64](r.force(act.parts[0]))))})
	}
	there := r.used < len(r.input)
	if !there && !r.ended {
		panic(refEnd{Kind: api.EndNeed})
	}
	if act.name == "eof" {
		return &refCell{v: refCon{name: map[bool]string{true: "False", false: "True"}[there]}}
	}
	if !there {
		refError("end of input")
	}
	r.used++
	return &refCell{v: r.input[r.used-1]}
}

// end does what may end by a panic, and tells the outcome.
func (r *refRun) end(do func() refEnd) (o api.Outcome) {
	defer func() {
		if x := recover(); x != nil {
			o = api.Outcome(x.(refEnd))
		}
		o.Out, o.Used, o.Steps = r.out, r.used, r.steps
	}()
	return api.Outcome(do())
}

// refRan is what Run is to answer, refEvaluated what Eval is.
func refRan(p api.Prog, input string, ended bool, fuel int) api.Outcome {
	r := &refRun{fuel: fuel, input: []byte(input), ended: ended}
	return r.end(func() refEnd {
		r.perform(r.force(refEnv{}.letting(p.Binds)["main"]))
		return refEnd{Kind: api.EndExit}
	})
}

func refEvaluated(p api.Prog, e api.Expr, fuel int) api.Outcome {
	r := &refRun{fuel: fuel}
	return r.end(func() refEnd {
		text := "action"
		switch v := r.eval(&e, refEnv{}.letting(p.Binds)).(type) {
		case int64:
			text = fmt.Sprint(v)
		case byte:
			text = core.Text(api.Expr{Kind: api.ExChar, Num: int64(v)})
		case refCon:
			text = v.name
		case refFun:
			text = "fun"
		}
		return refEnd{Kind: api.EndValue, Text: text}
	})
}
