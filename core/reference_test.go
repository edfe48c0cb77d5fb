package core_test

import (
	"fmt"
	"maps"
	"math/rand"
	"reflect"
	"regexp"
	"slices"
	"strings"
	"testing"

	"thunkmill/api"
	"thunkmill/core"
)

// nameless is a text of an expression in which each bound variable is told by how many names ago it was bound: two are the same just if these texts are.
func nameless(e api.Expr) string { return namelessIn(e, nil, "", "") }

// namelessIn has another text in the place of a name that is not bound: bound variables being told by how far off they are, it is the same wherever it stands.
func namelessIn(e api.Expr, bound []string, name, by string) string {
	bound = slices.Concat(bound, e.Params)
	for _, b := range e.Binds {
		bound = append(bound, b.Name)
	}
	called := fmt.Sprintf("%q", e.Name)
	if e.Kind == api.ExVar {
		far := slices.Index(reversed(bound), e.Name)
		if far >= 0 {
			called = fmt.Sprint("@", far)
		} else if e.Name == name && by != "" {
			return by
		}
	}
	parts := []string{fmt.Sprint(e.Kind, called, e.Num, len(e.Params), "/", len(e.Binds), "/", len(e.Args), "/", len(e.Alts))}
	for _, b := range e.Binds {
		parts = append(parts, namelessIn(b.E, bound, name, by))
	}
	for _, a := range e.Args {
		parts = append(parts, namelessIn(a, bound, name, by))
	}
	for _, a := range e.Alts {
		parts = append(parts, fmt.Sprintf("%d %q %d %d", a.Kind, a.Name, a.Num, len(a.Vars)), namelessIn(a.E, slices.Concat(bound, a.Vars), name, by))
	}
	return "[" + strings.Join(parts, " ") + "]"
}

func reversed(l []string) []string {
	l = slices.Clone(l)
	slices.Reverse(l)
	return l
}

// freeOf is what is free in parts, without what is bound there.
func freeOf(e api.Expr) map[string]bool {
	free := map[string]bool{}
	if e.Kind == api.ExVar {
		free[e.Name] = true
	}
	for _, b := range e.Binds {
		maps.Copy(free, freeOf(b.E))
	}
	for _, a := range e.Args {
		maps.Copy(free, freeOf(a))
	}
	for _, a := range e.Alts {
		inner := freeOf(a.E)
		for _, name := range a.Vars {
			delete(inner, name)
		}
		maps.Copy(free, inner)
	}
	for _, name := range e.Params {
		delete(free, name)
	}
	for _, b := range e.Binds {
		delete(free, b.Name)
	}
	return free
}

// place is an expression, how deep it stands, and what is in scope there.
type place struct {
	e     api.Expr
	deep  int
	scope []string
}

func places(e api.Expr, deep int, scope []string) []place {
	scope = slices.Concat(scope, e.Params)
	for _, b := range e.Binds {
		scope = append(scope, b.Name)
	}
	l := []place{{e, deep, scope}}
	for _, b := range e.Binds {
		l = append(l, places(b.E, deep+1, scope)...)
	}
	for _, a := range e.Args {
		l = append(l, places(a, deep+1, scope)...)
	}
	for _, a := range e.Alts {
		l = append(l, places(a.E, deep+1, slices.Concat(scope, a.Vars))...)
	}
	return l
}

var goodName = regexp.MustCompile(`^[!-~]{1,}$`)

func isName(s string) bool { return len(s) <= api.MaxSource && goodName.MatchString(s) }

func areNames(l []string) bool {
	seen := map[string]bool{}
	for _, s := range l {
		if !isName(s) || seen[s] {
			return false
		}
		seen[s] = true
	}
	return true
}

// asTheTable tells whether the fields of a struct that are not named are zero.
func asTheTable(v any, fields string) bool {
	s := reflect.ValueOf(v)
	for i := range s.NumField() {
		f := s.Field(i)
		if slices.Contains(strings.Fields(fields+" Kind E"), s.Type().Field(i).Name) {
			continue
		}
		if f.Kind() == reflect.Slice && f.Len() > 0 || f.Kind() != reflect.Slice && !f.IsZero() {
			return false
		}
	}
	return true
}

// faultsOf are the errors that apply to an expression that stands at a place.
func faultsOf(p place, cons []api.Con) []api.Errno {
	e := p.e
	var l []api.Errno
	add := func(wrong bool, err api.Errno) {
		if wrong {
			l = append(l, err)
		}
	}
	arity := func(name string) int {
		for _, c := range cons {
			if c.Name == name {
				return c.Arity
			}
		}
		return -1
	}
	add(p.deep > api.MaxNest, api.ErrLong)
	fields := map[int]string{1: "Name", 2: "Num", 3: "Num", 4: "Name Args", 5: "Params Args", 6: "Args", 7: "Binds Args", 8: "Args Alts", 9: "Name Args"}
	own, known := fields[e.Kind]
	add(!known || !asTheTable(e, own), api.ErrArg)
	add(strings.Contains(own, "Name") && !isName(e.Name), api.ErrArg)
	switch e.Kind {
	case api.ExVar:
		add(!slices.Contains(p.scope, e.Name), api.ErrScope)
	case api.ExChar:
		add(e.Num < 0 || e.Num > 255, api.ErrArg)
	case api.ExCon:
		add(arity(e.Name) != len(e.Args) || len(e.Args) < 0, api.ErrShape)
	case api.ExLam:
		add(len(e.Params) < 1 || len(e.Params) > 32 || !areNames(e.Params) || len(e.Args) != 1, api.ErrArg)
	case api.ExApp:
		add(len(e.Args) < 2 || len(e.Args) > 33, api.ErrArg)
	case api.ExLet:
		var names []string
		for _, b := range e.Binds {
			names = append(names, b.Name)
		}
		add(len(names) < 1 || !areNames(names) || len(e.Args) != 1, api.ErrArg)
	case api.ExPrim:
		ok := false
		for _, p := range prims() {
			ok = ok || p.Name == e.Name && p.Arity == len(e.Args)
		}
		add(!ok, api.ErrShape)
	case api.ExCase:
		add(len(e.Args) != 1 || len(e.Alts) < 1, api.ErrArg)
	}
	for i, a := range e.Alts {
		fields, known := map[int]string{1: "Name Vars", 2: "Num", 3: "Num", 4: "Vars"}[a.Kind]
		add(!known || !asTheTable(a, fields), api.ErrArg)
		add(!areNames(a.Vars), api.ErrArg)
		add(a.Kind == api.AltCon && !isName(a.Name) || a.Kind == api.AltElse && len(a.Vars) > 1, api.ErrArg)
		add(a.Kind == api.AltChar && (a.Num < 0 || a.Num > 255), api.ErrArg)
		add(a.Kind == api.AltCon && arity(a.Name) != len(a.Vars), api.ErrShape)
		for _, b := range e.Alts[:i] {
			// No two that go with each other are an else ahead, of two kinds, of two types, or the same.
			add(b.Kind == api.AltElse || a.Kind != api.AltElse && a.Kind != b.Kind, api.ErrArg)
			add(a.Kind == api.AltCon && b.Kind == api.AltCon && (a.Name == b.Name || ofTwoTypes(cons, a.Name, b.Name)), api.ErrArg)
			add((a.Kind == api.AltInt || a.Kind == api.AltChar) && a.Kind == b.Kind && a.Num == b.Num, api.ErrArg)
		}
	}
	return l
}

func ofTwoTypes(cons []api.Con, a, b string) bool {
	i := slices.IndexFunc(cons, func(c api.Con) bool { return c.Name == a })
	j := slices.IndexFunc(cons, func(c api.Con) bool { return c.Name == b })
	return i >= 0 && j >= 0 && cons[i].Type != cons[j].Type
}

// firstOf is the first error, in the order in which the chapter names them, of those that apply.
func firstOf(l []api.Errno) api.Errno {
	for _, e := range []api.Errno{api.ErrLong, api.ErrArg, api.ErrShape, api.ErrScope, api.ErrMain} {
		if slices.Contains(l, e) {
			return e
		}
	}
	return api.OK
}

func referenceExpr(p api.Prog, e api.Expr, vars []string) api.Errno {
	scope := slices.Clone(vars)
	for _, b := range p.Binds {
		scope = append(scope, b.Name)
	}
	var l []api.Errno
	for _, at := range places(e, 1, scope) {
		l = append(l, faultsOf(at, p.Cons)...)
	}
	return firstOf(l)
}

func referenceProg(p api.Prog) api.Errno {
	var l []api.Errno
	if !consMayBe(p.Cons) {
		l = append(l, api.ErrArg)
	}
	hasMain := false
	for i, b := range p.Binds {
		if !isName(b.Name) || i > 0 && p.Binds[i-1].Name >= b.Name {
			l = append(l, api.ErrArg)
		}
		hasMain = hasMain || b.Name == "main"
		l = append(l, referenceExpr(p, b.E, nil))
	}
	if !hasMain {
		l = append(l, api.ErrMain)
	}
	return firstOf(l)
}

// consMayBe holds constructors to what they are once sorted and numbered anew.
func consMayBe(l []api.Con) bool {
	sorted := slices.Clone(l)
	slices.SortStableFunc(sorted, func(a, b api.Con) int { return strings.Compare(a.Type, b.Type) })
	of, names := map[string]int{}, map[string]bool{}
	for i := range sorted {
		c := &sorted[i]
		if !isName(c.Name) || !isName(c.Type) || names[c.Name] || c.Arity < 0 || c.Arity > 32 {
			return false
		}
		names[c.Name] = true
		c.Tag = of[c.Type]
		of[c.Type]++
	}
	for _, c := range builtin() {
		if !slices.Contains(l, c) {
			return false
		}
	}
	return slices.Equal(sorted, l) && of["Bool"] == 2 && of["List"] == 2 && of["Unit"] == 1
}

// changer changes programs and expressions by chance, mostly to what may not be.
type changer struct {
	*rand.Rand
}

func (c changer) name() string {
	l := []string{"x", "y", "z", "v1", "a", "main", "f", "nowhere", "", "a b", "\x7f", "Nil", "Cons", "True", "Zed", "K", "No", "add", "getc", "ord", "B"}
	return l[c.Intn(len(l))]
}

func (c changer) number() int64 {
	return []int64{0, 1, -1, 2, 7, 255, 256, 1 << 40}[c.Intn(8)]
}

func (c changer) names(l []string) []string {
	l = slices.Clone(l)
	switch c.Intn(3) {
	case 0:
		return append(l, c.name())
	case 1:
		return l[:len(l)/2]
	}
	if len(l) > 0 {
		l[c.Intn(len(l))] = c.name()
	}
	return l
}

// expr changes one expression of all that are in one, and answers it.
func (c changer) expr(e api.Expr) api.Expr {
	e = core.Copy(e)
	at := &e
	for c.Intn(4) > 0 {
		kids := []*api.Expr{}
		for i := range at.Binds {
			kids = append(kids, &at.Binds[i].E)
		}
		for i := range at.Args {
			kids = append(kids, &at.Args[i])
		}
		for i := range at.Alts {
			kids = append(kids, &at.Alts[i].E)
		}
		if len(kids) == 0 {
			break
		}
		at = kids[c.Intn(len(kids))]
	}
	c.at(at)
	return e
}

func (c changer) at(e *api.Expr) {
	switch c.Intn(12) {
	case 0:
		e.Kind = c.Intn(11)
	case 1:
		e.Name = c.name()
	case 2:
		e.Num = c.number()
	case 3:
		e.Params = c.names(e.Params)
	case 4:
		e.Args = append(e.Args, number(1))
	case 5:
		e.Args = e.Args[:len(e.Args)/2]
	case 6:
		e.Binds = append(e.Binds, api.Bind{Name: c.name(), E: variable(c.name())})
	case 7:
		e.Binds = e.Binds[:len(e.Binds)/2]
	case 8:
		e.Alts = append(e.Alts, api.Alt{Kind: c.Intn(6), Name: c.name(), E: number(1)})
	case 9:
		*e = variable(c.name())
	case 10:
		*e = api.Expr{Kind: api.ExCon, Name: c.name(), Args: many(c.Intn(4), number(1))}
	case 11:
		if len(e.Alts) > 0 {
			c.alt(e.Alts)
		}
	}
}

func (c changer) alt(l []api.Alt) {
	a, b := &l[c.Intn(len(l))], &l[c.Intn(len(l))]
	switch c.Intn(6) {
	case 0:
		a.Kind = c.Intn(6)
	case 1:
		a.Name = c.name()
	case 2:
		a.Num = c.number()
	case 3:
		a.Vars = c.names(a.Vars)
	case 4:
		*a, *b = *b, *a
	case 5:
		*a = *b
	}
}

func (c changer) prog(p api.Prog) api.Prog {
	p.Cons, p.Binds = slices.Clone(p.Cons), slices.Clone(p.Binds)
	switch i := c.Intn(len(p.Cons)); c.Intn(16) {
	case 0:
		p.Cons[i].Name = c.name()
	case 1:
		p.Cons[i].Arity += c.Intn(3) - 1
	case 2:
		p.Cons[i].Type = []string{"A", "Bool", "List", "Unit", "Boolean", "a", "", "z"}[c.Intn(8)]
	case 3:
		p.Cons[i].Tag += c.Intn(3) - 1
	case 4:
		p.Cons = slices.Delete(p.Cons, i, i+1)
	case 5:
		j := c.Intn(len(p.Cons))
		p.Cons[i], p.Cons[j] = p.Cons[j], p.Cons[i]
	case 6:
		p.Cons = slices.Insert(p.Cons, i, api.Con{Name: c.name(), Type: p.Cons[i].Type, Tag: p.Cons[i].Tag})
	case 7:
		p.Cons = append(p.Cons, api.Con{Name: "more", Type: "more", Arity: c.Intn(40), Tag: c.Intn(2)})
	case 8:
		p.Binds = append(p.Binds, api.Bind{Name: c.name(), E: number(1)})
	case 9:
		p.Binds = p.Binds[:len(p.Binds)/2]
	default:
		if len(p.Binds) > 0 {
			b := &p.Binds[c.Intn(len(p.Binds))]
			if c.Intn(4) == 0 {
				b.Name = c.name()
			} else {
				b.E = c.expr(b.E)
			}
		}
	}
	return p
}

// closed is an expression with its free variables bound.
func closed(e api.Expr) api.Expr {
	l := core.Free(e)
	if len(l) == 0 {
		return e
	}
	return api.Expr{Kind: api.ExLam, Params: l, Args: []api.Expr{e}}
}

// P7.1: programs by chance, as they may be and with some changes.
func TestCheckByTheReference(t *testing.T) {
	make := byChance(1)
	change := changer{rand.New(rand.NewSource(2))}
	told := map[api.Errno]int{}
	for range 12000 {
		p := api.Prog{Cons: cons()}
		for _, name := range []string{"a", "main", "z"} {
			p.Binds = append(p.Binds, api.Bind{Name: name, E: closed(make.Expr(1 + make.Chance.Intn(4)))})
		}
		for range change.Intn(4) {
			p = change.prog(p)
		}
		want := referenceProg(p)
		told[want]++
		if got := core.Check(p); got != want {
			t.Fatalf("Check: %v instead of %v of\n%+v", got, want, p)
		}
		for _, b := range p.Binds {
			vars := []string{"x", "y", "", "a b"}[:change.Intn(5)]
			if got, want := core.CheckExpr(p, b.E, vars), referenceExpr(p, b.E, vars); got != want {
				t.Fatalf("CheckExpr: %v instead of %v of %+v in\n%+v", got, want, b.E, p)
			}
		}
	}
	for _, e := range []api.Errno{api.OK, api.ErrArg, api.ErrShape, api.ErrScope, api.ErrMain} {
		if told[e] < 100 {
			t.Errorf("%v is told %d times alone", e, told[e])
		}
	}
}

// P7.2: Same, Free, Size and Subst, of expressions as they may be and with some changes.
func TestOthersByTheReference(t *testing.T) {
	make := byChance(4)
	change := changer{rand.New(rand.NewSource(5))}
	for range 12000 {
		e, by := make.Expr(1+make.Chance.Intn(4)), make.Expr(1+make.Chance.Intn(3))
		name := make.Names[make.Chance.Intn(len(make.Names))]
		for range change.Intn(3) {
			e = change.expr(e)
		}
		for range change.Intn(2) {
			by = change.expr(by)
		}
		checkByReference(t, e, name, by)
		other := change.expr(e)
		if got := core.Same(e, other); got != (nameless(e) == nameless(other)) {
			t.Fatalf("Same of %+v and %+v: %v", e, other, got)
		}
	}
}

func checkByReference(t *testing.T, e api.Expr, name string, by api.Expr) {
	t.Helper()
	if got, want := core.Size(e), len(places(e, 1, nil)); got != want {
		t.Fatalf("Size of %+v: %d instead of %d", e, got, want)
	}
	if got, want := core.Free(e), slices.Sorted(maps.Keys(freeOf(e))); !slices.Equal(got, want) {
		t.Fatalf("Free of %+v: %q instead of %q", e, got, want)
	}
	got := core.Subst(e, name, by)
	if nameless(got) != namelessIn(e, nil, name, nameless(by)) {
		t.Fatalf("Subst of %+v, %s by %+v: %+v", e, name, by, got)
	}
	if !freeOf(e)[name] && !reflect.DeepEqual(got, e) || !reflect.DeepEqual(core.Copy(e), e) {
		t.Fatalf("Copy of %+v: %+v, Subst of %s: %+v", e, core.Copy(e), name, got)
	}
}

// small are all expressions of so many expressions, of a few forms and two names.
func small(n int) []api.Expr {
	if n == 1 {
		return []api.Expr{variable("x"), variable("y"), number(1)}
	}
	var l []api.Expr
	in := func(e ...api.Expr) []api.Expr { return e }
	for _, a := range small(n - 1) {
		for _, names := range []string{"x", "y", "x y"} {
			l = append(l, api.Expr{Kind: api.ExLam, Params: strings.Fields(names), Args: in(a)})
		}
	}
	for i := 1; i < n-1; i++ {
		for _, a := range small(i) {
			for _, b := range small(n - 1 - i) {
				l = append(l, api.Expr{Kind: api.ExApp, Args: in(a, b)}, api.Expr{Kind: api.ExCase, Args: in(a), Alts: []api.Alt{{Kind: api.AltElse, E: b}}})
				for _, name := range []string{"x", "y"} {
					l = append(l, api.Expr{Kind: api.ExLet, Binds: []api.Bind{{Name: name, E: a}}, Args: in(b)}, api.Expr{Kind: api.ExCase, Args: in(a), Alts: []api.Alt{{Kind: api.AltElse, Vars: []string{name}, E: b}}})
				}
			}
		}
	}
	return l
}

// P7.2, P7.4: all small expressions.
func TestSmallExpressions(t *testing.T) {
	all := slices.Concat(small(1), small(2), small(3))
	by := slices.Concat(small(1), small(2))
	for _, a := range slices.Concat(all, small(4)) {
		for _, b := range by {
			checkByReference(t, a, "x", b)
		}
	}
	texts := map[string]int{}
	var forms []string
	for _, a := range all {
		forms = append(forms, nameless(a))
		texts[core.Text(a)]++
	}
	for i, a := range all {
		for j, b := range all {
			if core.Same(a, b) != (forms[i] == forms[j]) {
				t.Fatalf("Same of %s and %s", core.Text(a), core.Text(b))
			}
		}
	}
	if len(texts) != len(all) {
		t.Errorf("%d texts of %d expressions", len(texts), len(all))
	}
}
