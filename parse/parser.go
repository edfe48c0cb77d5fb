package parse

import (
	"slices"

	"thunkmill/api"
)

// stream tells tokens one by one, with the braces and semicolons that layout implies.
type stream interface {
	Peek() (api.Lexeme, api.Errno)
	Take() (api.Lexeme, api.Errno)
	Close() api.Errno
	Wrong() int
}

// parser reads a stream: its methods are the rules of the grammar. Once there is a fault no token comes any more, so that all of them end without asking for it.
type parser struct {
	in      stream
	next    api.Token   // what comes next; of no kind where nothing can be read
	fault   api.Fault   // the first one
	wrong   []int       // the places of what is known to be wrong as this token comes next
	loose   []int       // the places of the _ @ ~ of which it is not known yet whether a left side is around
	written map[int]int // how what is no token of its own is written, by its place
}

// How a name or a constructor is written: left sides heed it, though the nodes are alike.
const (
	asItself   = iota // it is a token
	asUnit            // it is ( )
	asOperator        // it is ( op )
)

// list reads a thing, and one more as long as another one follows.
func list[T any](thing func() T, follows func() bool) []T {
	all := []T{thing()}
	for follows() {
		all = append(all, thing())
	}
	return all
}

// look finds what comes next. Where the layout is wrong, and at the end, it is a token of no kind.
func (p *parser) look() {
	x, _ := p.in.Peek()
	p.next = x.Token
}

// take goes on behind what comes next, unless something was wrong ahead of it.
func (p *parser) take() api.Token {
	if len(p.wrong) > 0 {
		p.fail()
		return api.Token{}
	}
	t := p.next
	p.in.Take()
	p.look()
	return t
}

// at tells whether a mark, a word or a sign comes next.
func (p *parser) at(text string) bool {
	return p.next.Kind >= api.TokMark && p.next.Text == text
}

// skip takes a mark, a word or a sign, if it comes next.
func (p *parser) skip(text string) bool {
	if !p.at(text) {
		return false
	}
	p.take()
	return true
}

// want takes a mark, a word or a sign, which must come next.
func (p *parser) want(text string) api.Token {
	if !p.at(text) {
		p.fail()
		return api.Token{}
	}
	return p.take()
}

// wantKind takes a token of one of some kinds, which must come next.
func (p *parser) wantKind(kinds ...int) api.Token {
	if !slices.Contains(kinds, p.next.Kind) {
		p.fail()
		return api.Token{}
	}
	return p.take()
}

// fail says that what comes next can't go on. What was wrong ahead of it is told in its place, the first one from the left.
func (p *parser) fail() {
	if len(p.wrong) > 0 {
		p.refuse(api.ErrSyntax, slices.Min(p.wrong))
		return
	}
	if at := p.in.Wrong(); at >= 0 {
		p.refuse(api.ErrLayout, at)
		return
	}
	p.refuse(api.ErrSyntax, p.next.At)
}

func (p *parser) refuse(e api.Errno, at int) {
	if p.fault.Err == api.OK {
		p.fault = api.Fault{Err: e, At: at}
	}
	p.next = api.Token{}
}

// blame says that something ahead of what comes next is wrong. It does not fail yet: as the same token comes next, it may turn out that something further to the left is wrong, too.
func (p *parser) blame(at int) {
	p.wrong = append(p.wrong, at)
}

// blameLoose says that there is no left side around what was read since there were so many loose places.
func (p *parser) blameLoose(since int) {
	if len(p.loose) > since {
		p.blame(p.loose[since])
	}
}

// settle says that what was read since there were so many loose places is a left side.
func (p *parser) settle(since int) {
	p.loose = p.loose[:since]
}

// over says that nothing more may come.
func (p *parser) over() {
	if _, e := p.in.Peek(); e != api.ErrOver {
		p.fail()
	}
}

// block reads the things of a block, and tells where its braces stand.
func (p *parser) block(thing func() api.Node) (things []api.Node, begins, ends int) {
	begins = p.want("{").At
	for _, t := range list(thing, p.semicolon) {
		if t.Kind != nothing {
			things = append(things, t)
		}
	}
	return things, begins, p.end()
}

// nothing is the kind of what is read where no thing of a block begins.
const nothing = 0

// end reads the } of a block. If it does not come, it is implied where that can be: whoever calls has read what a } can be behind.
func (p *parser) end() int {
	if p.fault.Err == api.OK && !p.at("}") && p.in.Close() == api.OK {
		p.look()
	}
	return p.want("}").At
}

func (p *parser) semicolon() bool { return p.skip(";") }

func (p *parser) comma() bool { return p.skip(",") }

func (p *parser) bar() bool { return p.skip("|") }
