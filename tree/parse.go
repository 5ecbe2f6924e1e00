package tree

import (
	"dispatcher/api"
	"dispatcher/scan"
)

// comparison is the strength of which one operator at most stands between two.
const comparison = 2

// operators stand by rising strengths.
var operators = [...]struct {
	sign     string
	op       uint8
	strength int
}{
	{"||", XOr, 0}, {"&&", XAnd, 1},
	{"<", XLess, comparison}, {"<=", XLessEq, comparison}, {">", XMore, comparison}, {">=", XMoreEq, comparison}, {"==", XSame, comparison}, {"!=", XOther, comparison},
	{"+", XAdd, 3}, {"-", XSub, 3},
	{"*", XMul, 4}, {"/", XDiv, 4}, {"%", XMod, 4},
}

const strongest = 4

// Parse: P2.2.
func Parse(l []scan.Token) (Program, Wrong) {
	return parse(&parser{words: l})
}

// parse catches what the parser throws: a Wrong.
func parse(p *parser) (out Program, w Wrong) {
	defer func() {
		switch x := recover().(type) {
		case nil:
		case Wrong:
			out, w = Program{}, x
		default:
			panic(x)
		}
	}()
	out = p.program()
	if p.tooDeep {
		return Program{}, Wrong{Err: api.ErrFull}
	}
	return out, Wrong{}
}

type parser struct {
	words []scan.Token
	at    int
	// asked is how many words are known to be their own.
	asked   int
	tooDeep bool
}

// wrong throws that the word may not stand there.
func wrong(t scan.Token) {
	panic(Wrong{api.ErrTree, t.Line, t.Column})
}

func (p *parser) ended() bool { return p.at == len(p.words) }

func (p *parser) peek() scan.Token {
	if p.ended() {
		panic(Wrong{Err: api.ErrTree})
	}
	t := p.words[p.at]
	if p.at == p.asked {
		if !own(t) {
			wrong(t)
		}
		p.asked++
	}
	return t
}

// has tells whether that word stands there; texts tell words apart from names and numbers.
func (p *parser) has(text string) bool {
	return !p.ended() && p.peek().Text == text
}

func (p *parser) next() scan.Token {
	t := p.peek()
	p.at++
	return t
}

func (p *parser) expect(text string) scan.Token {
	t := p.next()
	if t.Text != text {
		wrong(t)
	}
	return t
}

func (p *parser) kind(kind uint8) scan.Token {
	t := p.next()
	if t.Kind != kind {
		wrong(t)
	}
	return t
}

// number tells a number from 1 to most.
func (p *parser) number(most int) int {
	t := p.kind(scan.TNumber)
	if t.Num < 1 || t.Num > int64(most) {
		wrong(t)
	}
	return int(t.Num)
}

// limit notes what is too deep; the tree isn't told then, so it needn't be whole.
func (p *parser) limit(deep int) bool {
	p.tooDeep = p.tooDeep || deep > api.MaxDeep
	return deep > api.MaxDeep
}

func (p *parser) program() (out Program) {
	for p.has("int") {
		out.Decls = append(out.Decls, p.decl())
	}
	for !p.ended() {
		out.Body = append(out.Body, p.statement(1))
	}
	return out
}

func (p *parser) decl() Decl {
	p.expect("int")
	t := p.kind(scan.TName)
	d := Decl{Name: t.Text, Line: t.Line, Column: t.Column}
	if p.has("[") {
		p.next()
		d.Places = p.number(api.MaxCells)
		p.expect("]")
	}
	p.expect(";")
	return d
}

func (p *parser) block(deep int) (l []Stmt) {
	p.expect("{")
	for !p.has("}") {
		l = append(l, p.statement(deep))
	}
	p.next()
	return l
}

func (p *parser) statement(deep int) Stmt {
	t := p.next()
	p.limit(deep)
	s := Stmt{Line: t.Line, Column: t.Column}
	switch {
	case t.Kind == scan.TName:
		p.assignment(&s, t.Text)
	case t.Kind != scan.TWord:
		wrong(t)
	case t.Text == "if":
		s.Op, s.Exprs = SIf, p.exprs(1, 1)
		s.Body = p.block(deep + 1)
		if p.has("else") {
			p.next()
			s.Else = p.block(deep + 1)
		}
	case t.Text == "while":
		s.Op, s.Exprs = SWhile, p.exprs(1, 1)
		s.Body = p.block(deep + 1)
	case t.Text == "for":
		p.turns(&s)
		s.Body = p.block(deep + 1)
	case t.Text == "assert":
		s.Op, s.Exprs = SAssert, p.exprs(1, 1)
		p.expect(";")
	case t.Text == "stop":
		s.Op = SStop
		p.expect(";")
	case Call(t.Text) != 0:
		p.call(&s, Call(t.Text))
	default:
		wrong(t)
	}
	return s
}

func (p *parser) assignment(s *Stmt, name string) {
	s.Op, s.Name = SSet, name
	if p.has("[") {
		p.next()
		s.Op, s.Exprs = SPut, p.exprs(1, 1)
		p.expect("]")
	}
	p.expect("=")
	s.Exprs = append(s.Exprs, p.exprs(1, 1)...)
	p.expect(";")
}

func (p *parser) turns(s *Stmt) {
	s.Op, s.Name = SFor, p.kind(scan.TName).Text
	p.expect("<")
	if p.has("size") {
		p.next()
		return
	}
	s.Turns = p.number(mostTurns)
}

func (p *parser) call(s *Stmt, kind uint8) {
	s.Op, s.Kind = SCall, kind
	p.expect("(")
	s.Exprs = p.exprs(Args(kind))
	if reduces(kind) {
		p.expect(",")
		s.Red = p.reduction()
	}
	p.expect(")")
	p.expect(";")
}

func (p *parser) reduction() uint8 {
	t := p.next()
	for op, word := range reductions {
		if t.Text == word {
			return uint8(op)
		}
	}
	wrong(t)
	return 0
}

// exprs tells so many expressions, with commas between.
func (p *parser) exprs(least, most int) (l []Expr) {
	for {
		e, _ := p.expr(0)
		l = append(l, e)
		if len(l) == most || len(l) >= least && !p.has(",") {
			return l
		}
		p.expect(",")
	}
}

// expr tells an expression of operators of that strength at least, and how deep it is.
func (p *parser) expr(strength int) (Expr, int) {
	if strength > strongest {
		return p.one()
	}
	left, deep := p.expr(strength + 1)
	for {
		op := p.operator(strength)
		if op == 0 {
			return left, deep
		}
		sign := p.next()
		right, other := p.expr(strength + 1)
		left, deep = p.join(Expr{Op: op, Line: sign.Line, Column: sign.Column}, 1+max(deep, other), left, right)
		if strength == comparison {
			return left, deep
		}
	}
}

// operator tells which operator of that strength stands there; 0, if none does.
func (p *parser) operator(strength int) uint8 {
	if p.ended() {
		return 0
	}
	text := p.peek().Text
	for _, o := range operators {
		if o.strength == strength && o.sign == text {
			return o.op
		}
	}
	return 0
}

func (p *parser) join(e Expr, deep int, parts ...Expr) (Expr, int) {
	if !p.limit(deep) {
		e.Args = parts
	}
	return e, deep
}

// one tells an expression without a side to its left.
func (p *parser) one() (Expr, int) {
	t := p.next()
	e := Expr{Line: t.Line, Column: t.Column}
	switch {
	case t.Text == "(":
		e, deep := p.expr(0)
		p.expect(")")
		return e, deep
	case t.Text == "-", t.Text == "!":
		e.Op = XNeg
		if t.Text == "!" {
			e.Op = XNot
		}
		part, deep := p.one()
		return p.join(e, deep+1, part)
	case t.Text == "row":
		e.Op = XRow
		return p.place(e)
	case t.Kind == scan.TName && p.has("["):
		e.Op, e.Name = XPlace, t.Text
		return p.place(e)
	case t.Kind == scan.TName:
		e.Op, e.Name = XName, t.Text
	case t.Kind == scan.TNumber:
		e.Op, e.Num = XNum, t.Num
	case t.Kind == scan.TWord && asked(t.Text):
		e.Op, e.Name = XWord, t.Text
	default:
		wrong(t)
	}
	return e, 1
}

func (p *parser) place(e Expr) (Expr, int) {
	p.expect("[")
	part, deep := p.expr(0)
	p.expect("]")
	return p.join(e, deep+1, part)
}
