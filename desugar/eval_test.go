package desugar_test

import (
	"maps"
	"strconv"
	"testing"

	"thunkmill/api"
	"thunkmill/desugar"
)

// A little evaluator, lazily as chapter 15 tells it, of programs that need few primitives: enough to ask what they come to.

// value is what something comes to.
type value struct {
	kind  int // of the expression that it is: a number, a character, a constructor, a function, a primitive that acts
	num   int64
	name  string
	parts []*cell
	env   environment
	lam   *api.Expr
}

// cell is evaluated when it is asked for, once.
type cell struct {
	env environment
	e   *api.Expr
	now *value
}

// ended is how evaluation ends without a value.
type ended string

type environment map[string]*cell

func (c *cell) force() value {
	if c.now != nil {
		return *c.now
	}
	if c.e == nil {
		panic(ended("it waits for itself"))
	}
	e := c.e
	c.e = nil
	v := c.env.eval(e)
	c.now = &v
	return v
}

func (env environment) cells(l []api.Expr) []*cell {
	cells := make([]*cell, len(l))
	for i := range l {
		cells[i] = &cell{env: env, e: &l[i]}
		if l[i].Kind == api.ExVar {
			cells[i] = env[l[i].Name]
		}
	}
	return cells
}

func (env environment) with(names []string, cells []*cell) environment {
	env = maps.Clone(env)
	for i, name := range names {
		env[name] = cells[i]
	}
	return env
}

// binding are bindings that see one another.
func (env environment) binding(l []api.Bind) environment {
	env = maps.Clone(env)
	for i := range l {
		env[l[i].Name] = &cell{env: env, e: &l[i].E}
	}
	return env
}

func (env environment) eval(e *api.Expr) value {
	switch e.Kind {
	case api.ExVar:
		return env[e.Name].force()
	case api.ExInt, api.ExChar:
		return value{kind: e.Kind, num: e.Num}
	case api.ExCon:
		return value{kind: e.Kind, name: e.Name, parts: env.cells(e.Args)}
	case api.ExLam:
		return value{kind: e.Kind, env: env, lam: e}
	case api.ExApp:
		return env.eval(&e.Args[0]).apply(env.cells(e.Args[1:]))
	case api.ExLet:
		return env.binding(e.Binds).eval(&e.Args[0])
	case api.ExCase:
		return env.choose(env.eval(&e.Args[0]), e.Alts)
	}
	return primitive(e.Name, env.cells(e.Args))
}

// apply hands a function its arguments: it may have had some already, and may answer one that takes the others.
func (v value) apply(args []*cell) value {
	if v.kind != api.ExLam {
		panic(ended("no function"))
	}
	args = append(v.parts[:len(v.parts):len(v.parts)], args...)
	n := len(v.lam.Params)
	if len(args) < n {
		v.parts = args
		return v
	}
	of := v.env.with(v.lam.Params, args[:n]).eval(&v.lam.Args[0])
	if len(args) > n {
		return of.apply(args[n:])
	}
	return of
}

func (env environment) choose(v value, l []api.Alt) value {
	for _, a := range l {
		switch {
		case a.Kind == api.AltElse,
			a.Kind == api.AltInt && v.kind == api.ExInt && v.num == a.Num,
			a.Kind == api.AltChar && v.kind == api.ExChar && v.num == a.Num,
			a.Kind == api.AltCon && v.kind == api.ExCon && v.name == a.Name:
			return env.with(a.Vars, v.parts).eval(&a.E)
		}
	}
	panic(ended("nothing fits"))
}

func primitive(name string, args []*cell) value {
	num := func(i int) int64 { return args[i].force().num }
	truth := func(is bool) value {
		if is {
			return value{kind: api.ExCon, name: "True"}
		}
		return value{kind: api.ExCon, name: "False"}
	}
	switch name {
	case "add":
		return value{kind: api.ExInt, num: num(0) + num(1)}
	case "sub":
		return value{kind: api.ExInt, num: num(0) - num(1)}
	case "mul":
		return value{kind: api.ExInt, num: num(0) * num(1)}
	case "eq":
		return truth(num(0) == num(1))
	case "lt":
		return truth(num(0) < num(1))
	case "ord":
		return value{kind: api.ExInt, num: num(0)}
	case "seq":
		args[0].force()
		return args[1].force()
	case "error":
		panic(ended("error " + args[0].force().told()))
	}
	return value{kind: api.ExPrim, name: name, parts: args}
}

// told is the text of a value, all of it evaluated.
func (v value) told() string {
	switch v.kind {
	case api.ExInt:
		return strconv.FormatInt(v.num, 10)
	case api.ExChar:
		return string(rune(v.num))
	case api.ExLam:
		return "function"
	}
	text := v.name
	switch v.name {
	case "Nil":
		return "[]"
	case "Cons":
		return v.parts[0].force().told() + ":" + v.parts[1].force().told()
	}
	for _, part := range v.parts {
		text += " " + part.force().told()
	}
	if len(v.parts) > 0 {
		text = "(" + text + ")"
	}
	return text
}

// perform performs an action on an input, and adds to what is written.
func (v value) perform(input *string, written *string) value {
	if v.kind != api.ExPrim {
		panic(ended("no action"))
	}
	switch v.name {
	case "ret":
		return v.parts[0].force()
	case "bind":
		of := v.parts[0].force().perform(input, written)
		return v.parts[1].force().apply([]*cell{{now: &of}}).perform(input, written)
	case "putc":
		*written += v.parts[0].force().told()
		return value{kind: api.ExCon, name: "Unit"}
	case "getc":
		if *input == "" {
			panic(ended("no input"))
		}
		c := (*input)[0]
		*input = (*input)[1:]
		return value{kind: api.ExChar, num: int64(c)}
	}
	panic(ended("no action " + v.name))
}

// comesTo is what a program's main comes to, or how it ends: what it is, or, if it acts on an input, what it writes, and its value.
func comesTo(p api.Prog, input string) (text string) {
	written := ""
	defer func() {
		if x := recover(); x != nil {
			text = written + "!" + string(x.(ended))
		}
	}()
	v := environment{}.binding(p.Binds)["main"].force()
	if v.kind == api.ExPrim {
		v = v.perform(&input, &written)
	}
	return written + "/" + v.told()
}

// orders are some declarations in all orders, equations of one function together.
func orders(decls []api.Node) [][]api.Node {
	if len(decls) == 0 {
		return [][]api.Node{nil}
	}
	var all [][]api.Node
	for i := 0; i < len(decls); {
		end := i + 1
		for end < len(decls) && decls[i].Kind == api.NdEqn && decls[end].Kind == api.NdEqn && decls[i].Name == decls[end].Name {
			end++
		}
		var rest []api.Node
		rest = append(append(rest, decls[:i]...), decls[end:]...)
		for _, l := range orders(rest) {
			all = append(all, append(append([]api.Node{}, decls[i:end]...), l...))
		}
		i = end
	}
	return all
}

// inAllOrders is a tree with the declarations of each of its blocks, one at a time, in all orders.
func inAllOrders(n api.Node) []api.Node {
	all := []api.Node{n}
	for i := range n.Kids {
		for _, k := range inAllOrders(n.Kids[i])[1:] {
			m := n
			m.Kids = append([]api.Node{}, n.Kids...)
			m.Kids[i] = k
			all = append(all, m)
		}
	}
	if n.Kind == api.NdProgram || n.Kind == api.NdWhere {
		for _, l := range orders(n.Kids) {
			m := n
			m.Kids = l
			all = append(all, m)
		}
	}
	return all
}

// P13.4: what programs come to, in whatever order their declarations stand.
func TestWhatProgramsDo(t *testing.T) {
	seen := 0
	for text, want := range map[string]string{
		"main = let { a = add b 1 ; b = c 2 ; c x = add x x ; (d, e) = (a, [d]) } in [a, b, d, case e of { [x] -> x }]":   "/5:4:5:5:[]",
		"main = even 10\neven 0 = True\neven n = odd (sub n 1)\nodd 0 = False\nodd n = even (sub n 1)":                    "/True",
		"main = take 5 (let { xs = 1 : ys ; ys = 2 : xs } in xs)\ntake 0 _ = []\ntake n (x : xs) = x : take (sub n 1) xs": "/1:2:1:2:1:[]",
		"main = [ (x, y) | x <- [1, 2, 3], lt 1 x, let { z = add x w ; w = 1 }, y <- [x, z], eq y 3 ]":                    "/(Tup2 2 3):(Tup2 3 3):[]",
		"main = [ x | (x, 1) <- [(1, 1), (2, 2), (3, 1)] ]":                                                               "/1:3:[]",
		"main = [ (x, y) | x <- [1, 2], y <- [3, x] ]":                                                                    "/(Tup2 1 3):(Tup2 1 1):(Tup2 2 3):(Tup2 2 2):[]",
		"main = [ 1 | False ]": "/[]",
		"main = [f (- 1), f 0, f 5, f 6]\nf x | lt x 0 = 1\nf 0 = 2\nf x | eq x 5 = 3\nf _ = 4":      "/1:2:3:4:[]",
		"main = f 3\nf x | a = 1 | b = c where { a = lt x b' ; b = lt b' x ; b' = 2 ; c = add x x }": "/6",
		"main = f 3\nf 1 = 2":                                                  "!error n:o: :m:a:t:c:h:[]",
		"main = x where { x | False = 1 }":                                     "!error n:o: :m:a:t:c:h:[]",
		"main = a where { (a, 1) = (2, 3) }":                                   "!error n:o: :m:a:t:c:h:[]",
		"main = 1 where { (a, b) = error \"no\" ; 3 = 4 ; _ = main }":          "/1",
		"main = x where { x = x }":                                             "!it waits for itself",
		"main = (\\ ~(a, b) ~c -> 1) (error \"x\") (error \"y\")":              "/1",
		"main = (\\ ~(a, b) -> add a b) (1, 2)":                                "/3",
		"main = map (+ 1) [1, 2]\nmap f l = [ f x | x <- l ]\nx + y = sub x y": "/0:1:[]",
		"main = (map (1 +) [1, 2], map (`sub` 1) [5], map (: []) [7], map (1 `add`) [2])\nmap f l = [ f x | x <- l ]\nx + y = sub x y":                               "/(Tup4 0:-1:[] 4:[] 7:[]:[] 3:[])",
		"main = do { a <- getc ; b <- getc ; let { both = [b, a] ; all = a : both } ; say all ; ret (ord b) }\nsay [] = ret ()\nsay (c : s) = do { putc c ; say s }": "aba/98",
		"main = do { (a, 1) <- ret (2, x) ; putc 'x' ; ret a }\nx = 1":                                                                                               "x/2",
		"main = do { putc 'y' ; (a, 1) <- ret (2, x) ; ret a }\nx = 2":                                                                                               "y!error n:o: :m:a:t:c:h:[]",
		"main = do { do { putc 'a' ; putc 'b' } ; ret 1 ; putc 'c' }":                                                                                                "abc/Unit",
		"main = f add 3\nf add x = add x 1 2\ng = 1\n[h, i] = [i, g]":                                                                                                "!no function",
		"main = [h, i]\nf x = x\ng = 1\n[h, i] = [f i, g]\n(j, _) = (h, j)":                                                                                          "/1:1:[]",
		"data T = P x y | Q\nmain = (g (P 1 2), g Q, P 1)\ng (P x y) = P y x\ng q = q":                                                                               "/(Tup3 (P 2 1) Q function)",
		"main = case (1, 2) of { (x, y) | lt y x -> 1 ; (1, y) | eq y 3 -> 2 | True -> z where { z = add y 5 } ; _ -> 4 }":                                           "/7",
		"main = if lt 1 2 then \"yes\" else error \"no\"":                                                                                                            "/y:e:s:[]",
		"main = add (seq 1 2) (let { add = 3 ; f y = mul y add } in f 4)":                                                                                            "/14",
		"main = C 1\ndata T = C x\nf (C x) = x":                                                                                                                      "/(C 1)",
		"main = f 1 2 3\nf x = g where { g y = h where { h z = [x, y, z] } }":                                                                                        "/1:2:3:[]",
	} {
		for _, n := range inAllOrders(program(t, text)) {
			p, f := desugar.Program(n)
			if got := comesTo(p, "ab"); f != (api.Fault{}) || got != want {
				t.Fatalf("%s: %q, %v, want %q", textOf(n), got, f, want)
			}
			seen++
		}
	}
	if seen < 250 {
		t.Errorf("%d programs only", seen)
	}
}
