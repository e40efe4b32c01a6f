package sql

import "relstore/api"

func (p *parser) query() api.Select {
	q := api.Select{Cores: []api.Core{p.core()}, Limit: -1}
	for op := p.setOp(); op != 0; op = p.setOp() {
		q.Ops = append(q.Ops, op)
		q.Cores = append(q.Cores, p.core())
	}
	if p.takes("order") {
		p.must("by")
		q.Order = list(p, p.order)
	}
	if p.takes("limit") {
		q.Limit = p.number()
		if p.takes("offset") {
			q.Offset = p.number()
		}
	}
	return q
}

// setOp: what stands between two cores; 0: nothing.
func (p *parser) setOp() int {
	switch {
	case p.takes("union"):
		if p.takes("all") {
			return api.UnionAll
		}
		return api.Union
	case p.takes("intersect"):
		return api.Intersect
	case p.takes("except"):
		return api.Except
	}
	return 0
}

func (p *parser) order() api.Order {
	o := api.Order{Expr: p.expr()}
	if !p.takes("asc") {
		o.Desc = p.takes("desc")
	}
	return o
}

func (p *parser) core() api.Core {
	p.must("select")
	c := api.Core{Distinct: p.takes("distinct")}
	c.Items = list(p, p.item)
	if p.takes("from") {
		c.From = p.from()
	}
	c.Where = p.clause("where")
	if p.takes("group") {
		p.must("by")
		c.Group = p.exprs()
	}
	c.Having = p.clause("having")
	return c
}

// clause: a word with an expression behind it; or nothing.
func (p *parser) clause(word string) []api.Expr {
	if !p.takes(word) {
		return nil
	}
	return []api.Expr{p.expr()}
}

// item of a core. Whether a name begins one with a star or an expression is not seen ahead of what stands behind the name and a point.
func (p *parser) item() api.Item {
	if p.takes("*") {
		return api.Item{Star: true}
	}
	if p.next.kind != aName {
		return p.titled(p.expr())
	}
	first := p.take()
	if !p.takes(".") {
		return p.titled(p.behind(p.single(first), lineOr, linePart))
	}
	if p.takes("*") {
		return api.Item{Star: true, Table: first.text}
	}
	return p.titled(p.behind(p.columnOf(first), lineOr, linePart))
}

// titled: an item of an expression, perhaps with a name behind it.
func (p *parser) titled(e api.Expr) api.Item { return api.Item{Expr: e, As: p.alias()} }

// alias: a name, perhaps with AS ahead; or nothing.
func (p *parser) alias() string {
	if p.takes("as") || p.next.kind == aName {
		return p.name()
	}
	return ""
}

func (p *parser) from() []api.From {
	l := []api.From{p.source(api.Cross)}
	for {
		switch {
		case p.takes(","):
			l = append(l, p.source(api.Cross))
		case p.takes("cross"):
			p.must("join")
			l = append(l, p.source(api.Cross))
		case p.takes("join"):
			l = append(l, p.joined(api.Inner))
		case p.takes("inner"):
			p.must("join")
			l = append(l, p.joined(api.Inner))
		case p.takes("left"):
			p.takes("outer")
			p.must("join")
			l = append(l, p.joined(api.Left))
		default:
			return l
		}
	}
}

// joined: a source, and on what.
func (p *parser) joined(join int) api.From {
	f := p.source(join)
	p.must("on")
	f.On = []api.Expr{p.expr()}
	return f
}

func (p *parser) source(join int) api.From {
	if p.next.kind == aName {
		f := api.From{Join: join, Table: p.name()}
		f.As = p.alias()
		return f
	}
	at := p.next.at
	q := enclosed(p, p.query)
	if highOfQuery(q) >= api.MaxDepth {
		panic(fault{api.ErrLarge, at})
	}
	p.takes("as")
	return api.From{Join: join, Sub: []api.Select{q}, As: p.name()}
}
