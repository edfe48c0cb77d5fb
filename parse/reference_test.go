package parse_test

import (
	"math/rand"
	"slices"
	"strings"
	"testing"

	"thunkmill/api"
	"thunkmill/layout"
	"thunkmill/lex"
	"thunkmill/parse"
)

// The chapter's grammar, with names of their own for those ops that no left side can be around (plain), for those that end ahead of a | (head), for those that are a statement (stmtops), for those ahead of an operator (sec), and for left sides. That a lambda, let, if goes as far to the right as can be is said by letting none of them stand ahead of an operator.
const commonRules = `
program : { decls }
alone : { plain }
decls : somedecl
decls : decls ; somedecl
somedecl :
somedecl : decl
decl : data con = condefs
condefs : condef
condefs : condefs | condef
condef : con
condef : condef name
decl : infix digit oplist
oplist : op
oplist : oplist , op
decl : dleft eqrhs
eqrhs : = plain where?
eqrhs : eqguards where?
eqguards : eqguard
eqguards : eqguards eqguard
eqguard : | plain = plain
where? :
where? : where { decls }
alt : left arrhs
arrhs : -> plain where?
arrhs : arguards where?
arguards : arguard
arguards : arguards arguard
arguard : | plain -> plain
op : minus
op : otherop
otherop : oper
otherop : conop
otherop : bq name bq
otherop : bq con bq
ops : operand
ops : short op ops
operand : exp
operand : minus exp
short : shortexp
short : minus shortexp
exp : shortexp
exp : \ params -> plain
exp : let { decls } in plain
exp : if plain semi? then plain semi? else plain
semi? :
semi? : ;
shortexp : case plain of { alts }
shortexp : do { stmts }
shortexp : atoms
atoms : atom
atoms : atoms atom
sec : short
sec : short op sec
atom : name
atom : con
atom : digit
atom : number
atom : char
atom : string
atom : ( )
atom : ( ops )
atom : ( ops , ops )
atom : ( ops , ops , ops )
atom : ( ops , ops , ops , ops )
atom : ( op )
atom : ( sec op )
atom : ( otherop plain )
atom : [ ]
atom : [ opslist ]
atom : [ head | quals ]
opslist : ops
opslist : opslist , ops
quals : stmt
quals : quals , stmt
stmt : stmtops
stmt : left <- plain
stmt : let { decls }
plain : ops
head : ops
stmtops : ops
`

// What is a left side is asked once its sign is there.
const looseRules = `
dleft : ops
left : ops
params : atoms
atom : name @ atom
atom : _
atom : ~ atom
`

// What is a left side is told by rules of its own.
const strictRules = `
left : pat
dleft : pat
dleft : name apats
dleft : ( varop ) apats
dleft : part varop part
dleft : ( part varop part ) apats
params : apats
varop : minus
varop : oper
varop : bq name bq
constructor : conop
constructor : bq con bq
pat : part
pat : part constructor pat
part : apat
part : con apats
part : ( constructor ) apat apat
apats : apat
apats : apats apat
apat : name
apat : name @ apat
apat : con
apat : digit
apat : number
apat : char
apat : string
apat : _
apat : ~ apat
apat : ( )
apat : ( pat )
apat : ( pat , pat )
apat : ( pat , pat , pat )
apat : ( pat , pat , pat , pat )
apat : [ ]
apat : [ patlist ]
patlist : pat
patlist : patlist , pat
`

const freeBlocks = `
alts : somealt
alts : alts ; somealt
somealt :
somealt : alt
stmts : somestmt
stmts : stmts ; somestmt
somestmt :
somestmt : stmt
`

// A case has an alternative, a do a last statement that is no generator and no let.
const fullBlocks = `
alts : nothings alt
alts : alts ;
alts : alts ; alt
nothings :
nothings : nothings ;
stmts : nothings stmtops
stmts : before ; stmtops
stmts : stmts ;
before : nothings stmt
before : before ;
before : before ; stmt
`

// terminal is what the rules call a token.
func terminal(t api.Token) string {
	switch t.Kind {
	case api.TokName:
		return "name"
	case api.TokCon:
		return "con"
	case api.TokOp:
		if t.Text == "-" {
			return "minus"
		}
		return "oper"
	case api.TokConOp:
		return "conop"
	case api.TokInt:
		if t.Num <= 9 {
			return "digit"
		}
		return "number"
	case api.TokChar:
		return "char"
	case api.TokString:
		return "string"
	}
	switch t.Text {
	case "`":
		return "bq"
	case "infixl", "infixr":
		return "infix"
	}
	return t.Text
}

// reference tells the fault of a text, by the rules.
type reference struct {
	free, full, strict *chart
	tokens             []api.Token  // those that were read, implied ones too
	settled            map[int]bool // the tokens that are in left sides
}

type rulebook struct{ free, full, strict *grammar }

func newRulebook() rulebook {
	return rulebook{newGrammar(commonRules + looseRules + freeBlocks), newGrammar(commonRules + looseRules + fullBlocks), newGrammar(commonRules + strictRules + fullBlocks)}
}

// fault tells the fault of a text, and whether the strict rules went along with all of it, the token at which it is told too.
func (b rulebook) fault(s, start string) (fault api.Fault, strictly bool) {
	l, f := lex.All(s)
	if f.Err != api.OK {
		return f, false
	}
	r := &reference{free: newChart(b.free, start), full: newChart(b.full, start), strict: newChart(b.strict, start), settled: map[int]bool{}}
	in := layout.New(l, len(s))
	for {
		x, e := in.Peek()
		if e == api.ErrOver {
			return api.Fault{}, len(r.strict.last()) > 0
		}
		word := "none"
		if e == api.OK {
			word = terminal(x.Token)
		}
		if at := r.wrong(word); at >= 0 {
			return api.Fault{Err: api.ErrSyntax, At: at}, r.strict.can(word)
		}
		if !r.free.can(word) {
			if r.free.can("}") && in.Close() == api.OK {
				continue
			}
			if e == api.ErrLayout {
				return api.Fault{Err: e, At: in.Wrong()}, false
			}
			return api.Fault{Err: api.ErrSyntax, At: x.Token.At}, false
		}
		in.Take()
		r.tokens = append(r.tokens, x.Token)
		r.free.read(word)
		r.full.read(word)
		r.strict.read(word)
		if len(r.full.last()) == 0 {
			return api.Fault{Err: api.ErrSyntax, At: x.Token.At}, false
		}
	}
}

// wrong tells the place of the first thing that is known to be wrong at the token that comes next, -1 if nothing is: left sides that are none, and _ @ ~ that are in none.
func (r *reference) wrong(next string) int {
	var all []int
	for _, from := range r.lefts(next) {
		all = append(all, from.none(span(r.tokens[from.at:])))
	}
	for _, from := range r.plains(next) {
		for i := from; i < len(r.tokens); i++ {
			if isLoose(r.tokens[i]) && !r.settled[i] {
				all = append(all, r.tokens[i].At)
			}
		}
	}
	for _, from := range r.lefts(next) {
		for i := from.at; i < len(r.tokens); i++ {
			r.settled[i] = true
		}
	}
	all = slices.DeleteFunc(all, func(at int) bool { return at < 0 })
	if len(all) == 0 {
		return -1
	}
	return slices.Min(all)
}

// leftSide is a left side from a token on, and what tells the place of the first thing in it that is none, -1 if it is one.
type leftSide struct {
	at   int
	none func(s span) int
}

// lefts are the left sides whose sign comes next.
func (r *reference) lefts(next string) []leftSide {
	var l []leftSide
	put := func(from []int, none func(s span) int) {
		for _, at := range from {
			l = append(l, leftSide{at, none})
		}
	}
	switch next {
	case "=":
		put(r.free.begins("dleft", "eqrhs"), span.definition)
	case "|":
		put(r.free.begins("dleft", "eqrhs"), span.definition)
		put(r.free.begins("left", "arrhs"), span.row)
	case "->":
		put(r.free.begins("left", "arrhs"), span.row)
		put(r.free.begins("params", "->"), span.atoms)
	case "<-":
		put(r.free.begins("left", "<-"), span.row)
	}
	return l
}

// plains are those operands and operators that end ahead of what comes next, and have no left side around them.
func (r *reference) plains(next string) []int {
	if r.extends(next) {
		return nil
	}
	l := r.free.begins("plain", "")
	if next != "<-" {
		l = append(l, r.free.begins("stmtops", "")...)
	}
	if next == "|" {
		l = append(l, r.free.begins("head", "|")...)
	}
	if next == ")" {
		l = append(l, r.sections()...)
	}
	return l
}

// sections tells where those parts of sections begin behind which an operator was read.
func (r *reference) sections() []int {
	var l []int
	for _, x := range r.free.last() {
		if u := r.free.rules[x.rule]; u.left == "atom" && x.dot == 3 && strings.Join(u.right, " ") == "( sec op )" {
			l = append(l, x.from+1)
		}
	}
	return l
}

// extends tells whether operands and operators go on with the token that comes next.
func (r *reference) extends(next string) bool {
	return r.free.can(next) && slices.Contains(strings.Fields("name con digit number char string _ ~ ( [ @ minus oper conop bq"), next)
}

func isLoose(t api.Token) bool {
	return t.Kind >= api.TokMark && (t.Text == "_" || t.Text == "@" || t.Text == "~")
}

// span is a list of tokens that are known to be operands and operators. Whether it is a left side is told from the tokens.
type span []api.Token

func (s span) is(i int, texts string) bool {
	return i < len(s) && s[i].Kind >= api.TokMark && slices.Contains(strings.Fields(texts), s[i].Text)
}

// behindGroup is the number behind the bracket that ends what begins at i.
func (s span) behindGroup(i int) int {
	deep := 0
	for ; ; i++ {
		switch {
		case s.is(i, "( [ {"):
			deep++
		case s.is(i, ") ] }"):
			deep--
		}
		if deep == 0 {
			return i + 1
		}
	}
}

// operator tells how many tokens at i are an operator, and whether it is a constructor's.
func (s span) operator(i int) (tokens int, constructor bool) {
	switch {
	case i >= len(s):
	case s[i].Kind == api.TokOp:
		return 1, false
	case s[i].Kind == api.TokConOp:
		return 1, true
	case s.is(i, "`"):
		return 3, s[i+1].Kind == api.TokCon
	}
	return 0, false
}

// behindAtom is the number behind the atom at i.
func (s span) behindAtom(i int) int {
	switch {
	case s.is(i, "( ["):
		return s.behindGroup(i)
	case s.is(i, "~"):
		return s.behindAtom(i + 1)
	case s[i].Kind == api.TokName && s.is(i+1, "@"):
		return s.behindAtom(i + 2)
	}
	return i + 1
}

// behindOperand is the number behind the operand at i.
func (s span) behindOperand(i int) int {
	if s[i].Kind == api.TokOp { // a - of negation
		i++
	}
	switch {
	case s.is(i, `\ let if`):
		return len(s)
	case s.is(i, "do"):
		return s.behindGroup(i + 1)
	case s.is(i, "case"):
		for ; !s.is(i, "of"); i++ {
			switch {
			case s.is(i+1, "case"): // one within has its own of
				i = s.behindOperand(i+1) - 1
			case s.is(i+1, "( [ {"):
				i = s.behindGroup(i+1) - 1
			}
		}
		return s.behindGroup(i + 1)
	}
	for i < len(s) && (s[i].Kind < api.TokMark && s[i].Kind != api.TokOp && s[i].Kind != api.TokConOp || s.is(i, "( [ _ ~")) {
		i = s.behindAtom(i)
	}
	return i
}

// operands parts a span into its operands and operators by turns; the last one may be an operator.
func (s span) turns() []span {
	var l []span
	for i := 0; i < len(s); {
		end := s.behindOperand(i)
		l = append(l, s[i:end])
		i = end
		n, _ := s.operator(i)
		if n > 0 {
			l = append(l, s[i:i+n])
		}
		i += n
	}
	return l
}

func (s span) atomSpans() []span {
	var l []span
	for i := 0; i < len(s); {
		end := s.behindAtom(i)
		l = append(l, s[i:end])
		i = end
	}
	return l
}

// row tells the place of the first thing that is no pattern.
func (s span) row() int {
	for i, part := range s.turns() {
		at := -1
		if i%2 == 0 {
			at = part.operand()
		} else if _, constructor := part.operator(0); !constructor {
			at = part[0].At
		}
		if at >= 0 {
			return at
		}
	}
	return -1
}

func (s span) operand() int {
	if s[0].Kind == api.TokOp || s.is(0, `\ let if case do`) {
		return s[0].At
	}
	l := s.atomSpans()
	if len(l) == 1 {
		return s.atom()
	}
	n, constructor := l[0].alone()
	if !(l[0][0].Kind == api.TokCon || n && constructor && len(l) == 3) {
		return s[0].At
	}
	return span(s[len(l[0]):]).atoms()
}

// alone tells whether an atom is an operator in parentheses, and a constructor's.
func (s span) alone() (is, constructor bool) {
	n, constructor := s.operator(1)
	return s.is(0, "(") && n > 0 && n+2 == len(s), constructor
}

func (s span) atoms() int {
	for _, a := range s.atomSpans() {
		if at := a.atom(); at >= 0 {
			return at
		}
	}
	return -1
}

func (s span) atom() int {
	switch {
	case len(s) == 1:
		return -1
	case s.is(0, "~"):
		return s[1:].atom()
	case s.is(1, "@"):
		return s[2:].atom()
	}
	if n, _ := s.operator(1); n > 0 && !(s[1].Text == "-" && len(s) > 3) {
		return s[0].At // an operator alone, or a section
	}
	if len(s) == 2 {
		return -1
	}
	for _, part := range s[1 : len(s)-1].parts() {
		if part == nil || len(part.turns())%2 == 0 {
			return s[0].At
		}
	}
	for _, part := range s[1 : len(s)-1].parts() {
		if at := part.row(); at >= 0 {
			return at
		}
	}
	return -1
}

// parts are those between commas; nil stands for what is behind a | .
func (s span) parts() []span {
	var l []span
	from := 0
	for i := 0; i < len(s); i++ {
		switch {
		case s.is(i, "( [ {"):
			i = s.behindGroup(i) - 1
		case s.is(i, ","):
			l = append(l, s[from:i])
			from = i + 1
		case s.is(i, "|"):
			return append(l, nil)
		}
	}
	return append(l, s[from:])
}

// definition tells the place of the first thing that is none in a declaration's left side.
func (s span) definition() int {
	turns := s.turns()
	if at, is := s.infix(); is {
		return at
	}
	l := span(turns[0]).headed()
	if len(turns) > 1 || len(l) < 2 {
		return s.row()
	}
	rest := s[len(l[0]):]
	is, constructor := l[0].alone()
	if len(l[0]) == 1 && l[0][0].Kind == api.TokName || is && !constructor {
		return rest.atoms()
	}
	if l[0].is(0, "(") && len(l[0]) > 2 {
		if at, is := l[0][1 : len(l[0])-1].infix(); is {
			if at >= 0 {
				return at
			}
			return rest.atoms()
		}
	}
	return s.row()
}

// headed are the atoms of an operand that is nothing else.
func (s span) headed() []span {
	if s[0].Kind == api.TokOp || s.is(0, `\ let if case do`) {
		return nil
	}
	return s.atomSpans()
}

// infix tells whether an operator that is no constructor's stands alone between two operands, and which of them is none.
func (s span) infix() (at int, is bool) {
	if n, _ := s.operator(0); n > 0 && s[0].Text != "-" || len(s.parts()) > 1 {
		return -1, false
	}
	turns := s.turns()
	if len(turns) != 3 {
		return -1, false
	}
	if _, constructor := turns[1].operator(0); constructor {
		return -1, false
	}
	if at = turns[0].operand(); at < 0 {
		at = turns[2].operand()
	}
	return at, true
}

// hold reads a text by the package and by the rules, and tells its fault.
func (b rulebook) hold(t *testing.T, s, start string) api.Fault {
	t.Helper()
	want, strictly := b.fault(s, start)
	read := map[string]reader{"program": parse.Raw, "alone": parse.Expr}[start]
	_, got := read(s)
	if got != want && !(want.Err == api.OK && (got.Err == api.ErrLong || got.Err == api.ErrFixity && start == "alone")) {
		t.Errorf("%s of %q: got %v, want %v", start, s, got, want)
	}
	if strictly != (want.Err == api.OK) {
		t.Errorf("%s of %q: the rules of left sides do not agree with %v", start, s, want)
	}
	return want
}

// shortTexts are all texts of so many tokens of an alphabet behind a beginning, and those with an end behind each of them, too. A token that is / and a number begins a line at this column.
type shortTexts struct {
	start    string
	ahead    string
	alphabet string
	behind   string
	most     int
}

func (x shortTexts) hold(t *testing.T, b rulebook) {
	texts := []string{x.ahead}
	for range x.most {
		var longer []string
		for _, s := range texts {
			for _, token := range strings.Fields(x.alphabet) {
				next := s + token + " "
				if token[0] == '/' && len(token) == 2 {
					next = s + "\n" + strings.Repeat(" ", int(token[1]-'1'))
				}
				if f := b.hold(t, next, x.start); f.Err != api.OK && f.At < len(s) {
					continue // what is behind does not count any more
				}
				longer = append(longer, next)
				if x.behind != "" {
					b.hold(t, next+x.behind, x.start)
				}
				if t.Failed() {
					return
				}
			}
		}
		texts = longer
	}
}

// TestShortTexts: all texts of few tokens of some alphabets (P6.1, P6.2).
func TestShortTexts(t *testing.T) {
	b := newRulebook()
	for _, x := range []shortTexts{
		{"program", "", "x C = | ; ( ) { }", "", 4},
		{"program", "", "data infixl 9 10 C x = | , + `f`", "", 4},
		{"program", "", "x C _ ~ @ ( ) + : -", "= 1", 4},
		{"program", "", "x [ ] 1 | , ( ) : `f` (+)", "= 1", 4},
		{"program", "(x ", "+ : y ) z _ `f` (`f`) (`C`)", "= 1", 3},
		{"program", "x = ", "x where = ; /1 /3 do )", "", 4},
		{"program", "x = do ", "x ; <- let = in { } /3", "", 4},
		{"program", "{ x = ", "do ; x ( ) } let y = in", "", 4},
		{"alone", "", "x 1 + - ( ) , :", "", 5},
		{"alone", "( ", "x + - _ ( `f` , ) ]", ")", 4},
		{"alone", "[ ", "x , | <- _ let = ] (", "]", 4},
		{"alone", "\\ ", "x C _ @ ~ -> ( ) +", "-> 1", 4},
		{"alone", "case x of ", "x C -> | ; { } _ )", "-> 1", 4},
		{"alone", "do ", "x ; <- let { } in = _ /4", "", 4},
		{"alone", "if x ", "then else ; x do ( ) _", "", 5},
		{"alone", "let x = ", "do y in = ; let x ( )", "in x", 4},
	} {
		t.Run(x.start+" "+x.ahead, func(t *testing.T) {
			t.Parallel()
			x.hold(t, b)
		})
	}
}

// TestChangedTexts: texts that are made by chance, some tokens of which are changed (P6.1).
func TestChangedTexts(t *testing.T) {
	t.Parallel()
	b := newRulebook()
	for seed := range int64(1000) {
		m := newMaker(seed)
		m.program(1)
		if text := m.text.String(); len(text) < 300 {
			b.hold(t, text, "program")
			for range 8 {
				b.hold(t, changed(m.chance, text), "program")
			}
		}
		if t.Failed() {
			return
		}
	}
}

// changed is a text in which a token or two are left out, doubled, or put in.
func changed(chance *rand.Rand, s string) string {
	l, _ := lex.All(s)
	const others = "x C 1 \"a\" 'b' + - : ` ( ) [ ] , ; { } = | -> <- \\ @ ~ _ .. let in where do of case if then else data infixl"
	for range 1 + chance.Intn(2) {
		if len(l) < 2 {
			return s
		}
		i := chance.Intn(len(l) - 1)
		other := strings.Fields(others)[chance.Intn(len(strings.Fields(others)))]
		from, to := l[i].At, l[i+1].At
		switch chance.Intn(5) {
		case 0:
			s = s[:from] + s[to:]
		case 1:
			s = s[:to] + " " + s[from:]
		case 2:
			s = s[:from] + other + " " + s[from:]
		case 3:
			s = s[:from] + other + " " + s[to:]
		case 4:
			j := chance.Intn(len(l) - 1)
			s = s[:to] + " " + s[l[j].At:l[j+1].At] + " " + s[to:]
		}
		l, _ = lex.All(s)
	}
	return s
}
