package desugar

import (
	"strconv"

	"thunkmill/api"
	"thunkmill/core"
	"thunkmill/match"
)

// The names that are made begin with signs ahead of letters or digits: no lexeme does, so they meet no name of a program. Those of layer 12 begin otherwise.
const (
	freshAhead    = "%d"
	topLevelAhead = "%"
)

// maker makes expressions of the core of nodes that have no fault.
type maker struct {
	fresh      func() string
	cons       constructors
	scope      map[string]*block // of each name that is in scope what bound it
	room       int               // how many expressions more there may be; below 0, if there were too many
	kinds      map[int]func(n *api.Node) api.Expr
	statements map[int]func(n *api.Node) around
	qualifiers map[int]func(n *api.Node, t api.Expr) (around, api.Expr)
}

func newMaker(cons []api.Con) *maker {
	m := &maker{fresh: generator(freshAhead), cons: byName(cons), scope: map[string]*block{}, room: api.MaxNodes}
	m.kinds = map[int]func(n *api.Node) api.Expr{
		api.NdVar:    m.atom,
		api.NdCon:    m.atom,
		api.NdInt:    m.number,
		api.NdChar:   m.character,
		api.NdString: m.text,
		api.NdApp:    m.application,
		api.NdNeg:    m.negative,
		api.NdLam:    m.lambda,
		api.NdLet:    m.letIn,
		api.NdIf:     m.condition,
		api.NdCase:   m.choice,
		api.NdDo:     m.do,
		api.NdTuple:  m.tuple,
		api.NdList:   m.list,
		api.NdComp:   m.comprehension,
		api.NdLeft:   m.leftSection,
		api.NdRight:  m.rightSection,
		api.NdParen:  m.inner,
	}
	m.statements = map[int]func(n *api.Node) around{
		api.NdStmt: m.perform,
		api.NdGen:  m.receive,
		api.NdLets: m.lets,
	}
	m.qualifiers = map[int]func(n *api.Node, t api.Expr) (around, api.Expr){
		api.NdStmt: m.filter,
		api.NdGen:  m.draw,
		api.NdLets: m.letsAhead,
	}
	return m
}

// generator answers a function that tells a new name each time.
func generator(ahead string) func() string {
	last := 0
	return func() string {
		last++
		return ahead + strconv.Itoa(last)
	}
}

func (m *maker) several(n int) []string {
	l := make([]string, n)
	for i := range l {
		l[i] = m.fresh()
	}
	return l
}

// take takes room for expressions, and tells whether there was so much. All that is made takes its room ahead: what a small tree comes to may be more than any memory holds.
func (m *maker) take(n int) bool {
	m.room = max(m.room-n, -1)
	return m.hasRoom()
}

func (m *maker) hasRoom() bool {
	return m.room >= 0
}

// expr makes nothing more, once there is no room.
func (m *maker) expr(n *api.Node) api.Expr {
	if !m.hasRoom() {
		return api.Expr{}
	}
	return m.kinds[n.Kind](n)
}

func (m *maker) exprs(l []api.Node) []api.Expr {
	made := make([]api.Expr, len(l))
	for i := range l {
		made[i] = m.expr(&l[i])
	}
	return made
}

func (m *maker) inner(n *api.Node) api.Expr {
	return m.expr(&n.Kids[0])
}

func (m *maker) number(n *api.Node) api.Expr {
	return m.made(api.Expr{Kind: api.ExInt, Num: n.Num})
}

func (m *maker) character(n *api.Node) api.Expr {
	return m.made(api.Expr{Kind: api.ExChar, Num: n.Num})
}

func (m *maker) text(n *api.Node) api.Expr {
	if !m.take(2*len(n.Name) + 1) {
		return api.Expr{}
	}
	return match.Text(n.Name)
}

func (m *maker) negative(n *api.Node) api.Expr {
	return m.prim("sub", m.made(api.Expr{Kind: api.ExInt}), m.inner(n))
}

func (m *maker) condition(n *api.Node) api.Expr {
	l := m.exprs(n.Kids)
	return m.either(l[0], l[1], l[2])
}

func (m *maker) tuple(n *api.Node) api.Expr {
	return m.con(tupleOf(n), m.exprs(n.Kids)...)
}

func (m *maker) list(n *api.Node) api.Expr {
	e := m.con("Nil")
	for i := len(n.Kids) - 1; i >= 0; i-- {
		e = m.con("Cons", m.expr(&n.Kids[i]), e)
	}
	return e
}

// tupleOf tells the constructor of a tuple, or of a tuple's pattern.
func tupleOf(n *api.Node) string {
	return "Tup" + strconv.Itoa(len(n.Kids))
}

// made takes the room of an expression, those in it aside.
func (m *maker) made(e api.Expr) api.Expr {
	m.take(1)
	return e
}

func (m *maker) variable(name string) api.Expr {
	return m.made(api.Expr{Kind: api.ExVar, Name: name})
}

func (m *maker) con(name string, parts ...api.Expr) api.Expr {
	return m.made(api.Expr{Kind: api.ExCon, Name: name, Args: parts})
}

func (m *maker) prim(name string, args ...api.Expr) api.Expr {
	return m.made(api.Expr{Kind: api.ExPrim, Name: name, Args: args})
}

func (m *maker) lam(params []string, body api.Expr) api.Expr {
	return m.made(api.Expr{Kind: api.ExLam, Params: params, Args: []api.Expr{body}})
}

func (m *maker) app(parts ...api.Expr) api.Expr {
	return m.made(api.Expr{Kind: api.ExApp, Args: parts})
}

// let is bindings in an expression; that alone, if there are none.
func (m *maker) let(e api.Expr, binds ...api.Bind) api.Expr {
	if len(binds) == 0 {
		return e
	}
	return m.made(api.Expr{Kind: api.ExLet, Binds: binds, Args: []api.Expr{e}})
}

func (m *maker) alternatives(e api.Expr, alts ...api.Alt) api.Expr {
	return m.made(api.Expr{Kind: api.ExCase, Args: []api.Expr{e}, Alts: alts})
}

func (m *maker) either(truth, yes, no api.Expr) api.Expr {
	return m.alternatives(truth, api.Alt{Kind: api.AltCon, Name: "True", E: yes}, api.Alt{Kind: api.AltCon, Name: "False", E: no})
}

func (m *maker) failure() api.Expr {
	e := match.Failure()
	m.take(core.Size(e))
	return e
}
