package testkit

import (
	"strconv"
	"strings"

	"thunkmill/api"
)

// Core reads an expression of the core as its chapter tells it. Names that begin with a big letter are constructors. What can't be read is the zero expression.
func Core(text string) api.Expr {
	for _, sign := range []string{"(", ")", ";"} {
		text = strings.ReplaceAll(text, sign, " "+sign+" ")
	}
	r := reader{words: strings.Fields(text)}
	e := r.expr()
	if r.wrong || len(r.words) > 0 {
		return api.Expr{}
	}
	return e
}

// MustCore is the expression of a text that must be one.
func MustCore(text string) api.Expr {
	e := Core(text)
	if e.Kind == 0 {
		panic("no expression: " + text)
	}
	return e
}

// reader is the words that are left.
type reader struct {
	words []string
	wrong bool
}

func (r *reader) peek() string {
	if len(r.words) == 0 {
		return ""
	}
	return r.words[0]
}

func (r *reader) take() string {
	word := r.peek()
	if word == "" {
		r.wrong = true
		return ""
	}
	r.words = r.words[1:]
	return word
}

func (r *reader) must(word string) {
	if r.take() != word {
		r.wrong = true
	}
}

// until takes the words ahead of one, and that one.
func (r *reader) until(word string) []string {
	var l []string
	for !r.wrong && r.peek() != word {
		l = append(l, r.take())
	}
	r.must(word)
	return l
}

func (r *reader) expr() api.Expr {
	word := r.take()
	if word == "(" {
		e := r.inBrackets()
		r.must(")")
		return e
	}
	if n, char, ok := literal(word); ok {
		kind := api.ExInt
		if char {
			kind = api.ExChar
		}
		return api.Expr{Kind: kind, Num: n}
	}
	return api.Expr{Kind: api.ExVar, Name: word}
}

func (r *reader) exprs() []api.Expr {
	var l []api.Expr
	for !r.wrong && r.peek() != ")" {
		l = append(l, r.expr())
	}
	return l
}

func (r *reader) inBrackets() api.Expr {
	word := r.peek()
	switch {
	case word == "\\":
		r.take()
		return api.Expr{Kind: api.ExLam, Params: r.until("->"), Args: r.exprs()}
	case word == "let":
		return api.Expr{Kind: api.ExLet, Binds: r.binds(), Args: r.exprs()}
	case word == "case":
		r.take()
		e := r.expr()
		return api.Expr{Kind: api.ExCase, Args: []api.Expr{e}, Alts: r.alts()}
	case strings.HasPrefix(word, "#"):
		return api.Expr{Kind: api.ExPrim, Name: r.take()[1:], Args: r.exprs()}
	case isBig(word):
		return api.Expr{Kind: api.ExCon, Name: r.take(), Args: r.exprs()}
	}
	return api.Expr{Kind: api.ExApp, Args: r.exprs()}
}

// binds reads bindings up to an in; a sign is ahead of each, the first one's being let.
func (r *reader) binds() []api.Bind {
	var l []api.Bind
	for !r.wrong && r.peek() != "in" {
		r.take()
		name := r.take()
		r.must("=")
		l = append(l, api.Bind{Name: name, E: r.expr()})
	}
	r.must("in")
	return l
}

// alts reads alternatives up to a bracket; a sign is ahead of each, the first one's being of.
func (r *reader) alts() []api.Alt {
	var l []api.Alt
	for !r.wrong && r.peek() != ")" {
		r.take()
		a := alternative(r.until("->"))
		a.E = r.expr()
		l = append(l, a)
	}
	return l
}

func alternative(words []string) api.Alt {
	if len(words) == 0 {
		return api.Alt{}
	}
	if n, char, ok := literal(words[0]); ok {
		kind := api.AltInt
		if char {
			kind = api.AltChar
		}
		return api.Alt{Kind: kind, Num: n}
	}
	switch {
	case isBig(words[0]):
		return api.Alt{Kind: api.AltCon, Name: words[0], Vars: words[1:]}
	case words[0] == "_":
		return api.Alt{Kind: api.AltElse}
	}
	return api.Alt{Kind: api.AltElse, Vars: words}
}

// literal is the number of a word, and whether it is a character's.
func literal(word string) (n int64, char, ok bool) {
	bare := strings.Trim(word, "'")
	n, err := strconv.ParseInt(bare, 10, 64)
	return n, bare != word, err == nil
}

func isBig(word string) bool {
	return word != "" && 'A' <= word[0] && word[0] <= 'Z'
}

// Exprs makes expressions of the core by chance, as the chapter's table says, with the constructors and primitives that are handed to it. Their names are few, so that inner ones hide outer ones.
type Exprs struct {
	Chance Chance
	Names  []string
	Cons   []api.Con
	Prims  []Prim
}

// Prim is a primitive.
type Prim struct {
	Name  string
	Arity int
}

// Expr is an expression that is nested at most so deep, from 1 on.
func (x Exprs) Expr(deep int) api.Expr {
	if deep <= 1 {
		return x.leaf()
	}
	switch x.Chance.Intn(9) {
	case 0, 1:
		return x.leaf()
	case 2:
		return api.Expr{Kind: api.ExLam, Params: x.names(1 + x.Chance.Intn(2)), Args: x.exprs(1, deep)}
	case 3, 4:
		return api.Expr{Kind: api.ExApp, Args: x.exprs(2+x.Chance.Intn(2), deep)}
	case 5:
		return x.let(deep)
	case 6:
		return api.Expr{Kind: api.ExCase, Args: x.exprs(1, deep), Alts: x.alts(deep)}
	case 7:
		c := x.Cons[x.Chance.Intn(len(x.Cons))]
		return api.Expr{Kind: api.ExCon, Name: c.Name, Args: x.exprs(c.Arity, deep)}
	}
	p := x.Prims[x.Chance.Intn(len(x.Prims))]
	return api.Expr{Kind: api.ExPrim, Name: p.Name, Args: x.exprs(p.Arity, deep)}
}

func (x Exprs) leaf() api.Expr {
	switch x.Chance.Intn(6) {
	case 0:
		return api.Expr{Kind: api.ExInt, Num: int64(x.Chance.Intn(3) - 1)}
	case 1:
		return api.Expr{Kind: api.ExChar, Num: int64(x.Chance.Intn(2))}
	}
	return api.Expr{Kind: api.ExVar, Name: x.Names[x.Chance.Intn(len(x.Names))]}
}

func (x Exprs) exprs(n, deep int) []api.Expr {
	var l []api.Expr
	for range n {
		l = append(l, x.Expr(deep-1))
	}
	return l
}

// names are some of the names, none twice, from one on in their order: fewer than there are of them.
func (x Exprs) names(n int) []string {
	var l []string
	from := x.Chance.Intn(len(x.Names))
	for i := range min(n, len(x.Names)) {
		l = append(l, x.Names[(from+i)%len(x.Names)])
	}
	return l
}

func (x Exprs) let(deep int) api.Expr {
	var binds []api.Bind
	for _, name := range x.names(1 + x.Chance.Intn(3)) {
		binds = append(binds, api.Bind{Name: name, E: x.Expr(deep - 1)})
	}
	return api.Expr{Kind: api.ExLet, Binds: binds, Args: x.exprs(1, deep)}
}

func (x Exprs) alts(deep int) []api.Alt {
	var l []api.Alt
	switch x.Chance.Intn(4) {
	case 0:
		l = x.cons()
	case 1:
		l = []api.Alt{{Kind: api.AltInt, Num: int64(x.Chance.Intn(3) - 1)}, {Kind: api.AltInt, Num: 7}}
	case 2:
		l = []api.Alt{{Kind: api.AltChar, Num: int64(x.Chance.Intn(3))}}
	}
	if len(l) == 0 || x.Chance.Intn(2) == 0 {
		l = append(l, api.Alt{Kind: api.AltElse, Vars: x.names(x.Chance.Intn(2))})
	}
	for i := range l {
		l[i].E = x.Expr(deep - 1)
	}
	return l
}

// cons are alternatives of some constructors of one type.
func (x Exprs) cons() []api.Alt {
	var l []api.Alt
	of := x.Cons[x.Chance.Intn(len(x.Cons))].Type
	for _, c := range x.Cons {
		if c.Type == of && c.Arity <= len(x.Names) && x.Chance.Intn(3) > 0 {
			l = append(l, api.Alt{Kind: api.AltCon, Name: c.Name, Vars: x.names(c.Arity)})
		}
	}
	return l
}
