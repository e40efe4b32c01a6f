package sql

import "relstore/api"

// The lines of expressions, from what binds least to what binds most.
const (
	lineOr = iota + 1
	lineAnd
	lineNot
	lineTest
	lineConcat
	lineAdd
	lineMul
	lineNeg
	linePart
)

// The forms of a Case, which may be both, and of an Agg.
const (
	caseHeld    = 1
	caseElse    = 2
	aggDistinct = 1
	aggAll      = 2
)

// operator behind an expression.
type operator struct {
	word     string
	op, line int
}

var operators = [...]operator{
	{"or", api.Or, lineOr},
	{"and", api.And, lineAnd},
	{"=", api.Eq, lineTest},
	{"<>", api.Ne, lineTest},
	{"<", api.Lt, lineTest},
	{"<=", api.Le, lineTest},
	{">", api.Gt, lineTest},
	{">=", api.Ge, lineTest},
	{"is", api.IsNull, lineTest},
	{"between", api.Between, lineTest},
	{"like", api.Like, lineTest},
	{"in", api.In, lineTest},
	{"||", api.Concat, lineConcat},
	{"+", api.Add, lineAdd},
	{"-", api.Sub, lineAdd},
	{"*", api.Mul, lineMul},
	{"/", api.Div, lineMul},
	{"%", api.Mod, lineMul},
}

// made of parts: an operation.
func made(op int, parts ...api.Expr) api.Expr { return api.Expr{Op: op, Args: parts} }

// whole: an expression whose last token was taken must not be too high; at: where it is an error.
func whole(at int, e api.Expr) api.Expr {
	if highOf(e) > api.MaxDepth {
		panic(fault{api.ErrLarge, at})
	}
	return e
}

func (p *parser) expr() api.Expr { return p.line(lineOr) }

func (p *parser) exprs() []api.Expr { return list(p, p.expr) }

// line: an expression of this line, or of one that binds more.
func (p *parser) line(line int) api.Expr {
	switch {
	case p.is("not") && line <= lineNot:
		return p.behind(p.prefixed("not", api.Not, lineNot), line, lineNot-1)
	case p.is("-"):
		return p.behind(p.prefixed("-", api.Neg, lineNeg), line, lineNeg-1)
	}
	return p.behind(p.part(), line, linePart)
}

// prefixed: a word ahead of an expression of its line.
func (p *parser) prefixed(word string, op, line int) api.Expr {
	at := p.next.at
	p.opens(word)
	e := p.line(line)
	p.shut()
	return whole(at, made(op, e))
}

// behind an expression: operators of the lines from low to high, from the left, each with what it needs.
func (p *parser) behind(left api.Expr, low, high int) api.Expr {
	for {
		o := p.operator()
		if o.line < low || o.line > high {
			return left
		}
		high = o.line
		if o.line != lineTest {
			left = p.two(left, o)
			continue
		}
		left = p.test(left, o)
		high-- // a test stands once at most
	}
}

// operator that the next token is; on no line, if it is none.
func (p *parser) operator() operator {
	if p.is("not") {
		return operator{"not", api.Not, lineTest}
	}
	for _, o := range operators {
		if p.is(o.word) {
			return o
		}
	}
	return operator{}
}

// two: an operator behind its first part, with the second one, which binds more.
func (p *parser) two(left api.Expr, o operator) api.Expr {
	at := p.take().at
	return whole(at, made(o.op, left, p.line(o.line+1)))
}

// test of an expression.
func (p *parser) test(left api.Expr, o operator) api.Expr {
	at := p.next.at
	switch o.op {
	case api.IsNull:
		p.take()
		not := p.takes("not")
		p.must("null")
		return tested(at, made(api.IsNull, left), not)
	case api.Not:
		p.take()
		return tested(at, p.match(left), true)
	case api.Between, api.Like, api.In:
		return tested(at, p.match(left), false)
	}
	return p.two(left, o)
}

// tested: a test that is whole, or a NOT around it.
func tested(at int, e api.Expr, not bool) api.Expr {
	e = whole(at, e)
	if not {
		return whole(at, made(api.Not, e))
	}
	return e
}

// match: one of the tests that may have NOT ahead.
func (p *parser) match(left api.Expr) api.Expr {
	switch {
	case p.takes("between"):
		from := p.line(lineTest + 1)
		p.must("and")
		return made(api.Between, left, from, p.line(lineTest+1))
	case p.takes("like"):
		return made(api.Like, left, p.line(lineTest+1))
	}
	p.must("in")
	e := enclosed(p, p.members)
	return api.Expr{Op: api.In, Args: append([]api.Expr{left}, e.Args...), Sub: e.Sub}
}

// members: what IN looks at.
func (p *parser) members() api.Expr {
	if p.is("select") {
		return api.Expr{Sub: []api.Select{p.query()}}
	}
	return api.Expr{Args: p.exprs()}
}
