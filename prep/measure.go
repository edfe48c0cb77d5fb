package prep

import "thunkmill/api"

// measure is how many expressions there are, and how deep they are nested.
type measure struct {
	size, deep int
}

// beside adds what stands beside what was measured.
func (m *measure) beside(more measure) {
	m.size += more.size
	m.deep = max(m.deep, more.deep)
}

// in is the measure of an expression with such parts.
func (m measure) in() measure { return measure{m.size + 1, m.deep + 1} }

// fits tells whether a program may be so great.
func (m measure) fits() bool { return m.size <= api.MaxNodes && m.deep <= api.MaxNest }

// measured is the measure of an expression that may be, once it is prepared.
func measured(e *api.Expr) measure {
	var parts, bound measure
	from := atomsFrom(e)
	for i := range e.Args {
		a := &e.Args[i]
		if i < from || isAtom(a) {
			parts.beside(measured(a))
			continue
		}
		parts.beside(measure{1, 1}) // its name
		bound.beside(measured(a))
	}
	for i := range e.Binds {
		parts.beside(measured(&e.Binds[i].E))
	}
	for i := range e.Alts {
		parts.beside(measured(&e.Alts[i].E))
	}
	if bound.size == 0 {
		return parts.in()
	}
	bound.beside(parts.in())
	return bound.in()
}

// willFit tells whether a program of these Binds is neither too great nor too deep, once they are prepared. That is reckoned ahead, since they may become three times as great.
func willFit(l []api.Bind) bool {
	var m measure
	for i := range l {
		m.beside(measured(&l[i].E))
	}
	return m.fits()
}
