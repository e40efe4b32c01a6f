package sql

import "relstore/api"

// part: an expression of the last line.
func (p *parser) part() api.Expr {
	at := p.next.at
	switch {
	case p.next.kind == aName:
		first := p.take()
		if p.takes(".") {
			return p.columnOf(first)
		}
		return p.single(first)
	case p.is("("):
		// One that is not a query has been found not too high.
		return whole(at, enclosed(p, p.inner))
	case p.is("case"):
		return whole(at, p.choice())
	case p.takes("cast"):
		return whole(at, enclosed(p, p.cast))
	case p.takes("exists"):
		return whole(at, api.Expr{Op: api.Exists, Sub: []api.Select{enclosed(p, p.query)}})
	}
	return api.Expr{Op: api.Lit, Value: p.literal()}
}

// columnOf a table, whose name and a point were taken.
func (p *parser) columnOf(table token) api.Expr {
	return api.Expr{Op: api.Col, Table: table.text, Name: p.name()}
}

// single: what has just one name, which was taken: a column, an aggregate, a function.
func (p *parser) single(name token) api.Expr {
	if !p.is("(") {
		return api.Expr{Op: api.Col, Name: name.text}
	}
	var e api.Expr
	if isAggregate(name.text) {
		e = enclosed(p, p.gathered)
	} else {
		e = api.Expr{Op: api.Func, Args: enclosed(p, p.arguments)}
	}
	e.Name = name.text
	return whole(name.at, e)
}

func isAggregate(name string) bool {
	switch name {
	case "count", "sum", "min", "max", "avg":
		return true
	}
	return false
}

// gathered: what an aggregate is of.
func (p *parser) gathered() api.Expr {
	if p.takes("*") {
		return api.Expr{Op: api.Agg, Form: aggAll}
	}
	e := api.Expr{Op: api.Agg}
	if p.takes("distinct") {
		e.Form = aggDistinct
	}
	e.Args = []api.Expr{p.expr()}
	return e
}

// arguments of a function; perhaps none.
func (p *parser) arguments() []api.Expr {
	if p.is(")") {
		return nil
	}
	return p.exprs()
}

// inner: a query or an expression in parentheses.
func (p *parser) inner() api.Expr {
	if p.is("select") {
		return api.Expr{Op: api.Scalar, Sub: []api.Select{p.query()}}
	}
	return p.expr()
}

func (p *parser) cast() api.Expr {
	e := made(api.Cast, p.expr())
	p.must("as")
	e.Form = p.kind()
	return e
}

// choice: a CASE.
func (p *parser) choice() api.Expr {
	p.opens("case")
	e := api.Expr{Op: api.Case}
	if !p.is("when") {
		e.Form += caseHeld
		e.Args = append(e.Args, p.expr())
	}
	for first := true; first || p.is("when"); first = false {
		p.must("when")
		e.Args = append(e.Args, p.expr())
		p.must("then")
		e.Args = append(e.Args, p.expr())
	}
	if p.takes("else") {
		e.Form += caseElse
		e.Args = append(e.Args, p.expr())
	}
	p.must("end")
	p.shut()
	return e
}
