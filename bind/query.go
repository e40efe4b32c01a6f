package bind

import (
	"slices"

	"relstore/api"
)

// query, and what its ORDER BY says.
func (b *binder) query(outer *scope, q api.Select) *Query {
	before := len(b.spoken)
	made := &Query{Number: b.queries, Ops: q.Ops, Limit: q.Limit, Offset: q.Offset}
	b.queries++
	only := len(q.Cores) == 1
	first, core, columns := b.core(outer, q.Cores[0], only && slices.ContainsFunc(q.Order, orderGathers))
	core.At = counted(0, len(columns.columns))
	made.Columns, made.Cores = columns, []Core{core}
	for _, c := range q.Cores[1:] {
		_, core, columns := b.core(outer, c, false)
		b.further(made, core, columns)
	}
	for _, o := range q.Order {
		made.Order = append(made.Order, b.order(made, first, o))
	}
	made.Cores[0].Aggregates = first.aggregates
	made.Far = farther(outer, b.spoken[before:])
	b.spoken = append(b.spoken[:before], made.Far...)
	return made
}

// further core of a query, whose columns are held against those of the cores ahead of it.
func (b *binder) further(q *Query, core Core, columns *List) {
	refuse(columns.count != q.Columns.count, api.ErrForm)
	if !b.places {
		q.Columns, q.Cores = b.joined(q.Columns, columns), append(q.Cores, core)
		return
	}
	m := b.matched(q.Columns, columns)
	var ahead []int
	for _, p := range m.pairs {
		ahead, core.At = append(ahead, p.first), append(core.At, p.second)
	}
	for i, c := range q.Cores {
		q.Cores[i].At = picked(c.At, ahead)
	}
	q.Columns, q.Cores = m.list, append(q.Cores, core)
}

// farther: those of the columns that were named in a query that are of cores further out, each once.
func farther(outer *scope, spoken []Term) []Term {
	var l []Term
	for _, t := range spoken {
		if outer != nil && t.Place.Depth <= outer.depth && !slices.ContainsFunc(l, t.sameAs) {
			l = append(l, t)
		}
	}
	return l
}

// order of a query: by one of its columns, told by its number or its name; or, over the only core's sources, by a term.
func (b *binder) order(q *Query, first *scope, o api.Order) Order {
	column := columnOf(q.Columns, o.Expr)
	if column >= 0 {
		return Order{Column: column, Desc: o.Desc}
	}
	refuse(len(q.Cores) > 1 || q.Cores[0].Distinct, api.ErrForm)
	t := b.behind(first).term(o.Expr)
	first.fit(t)
	return Order{Column: column, Term: t, Desc: o.Desc}
}

// columnOf a query: the one that an expression of ORDER BY tells; -1, if it tells none.
func columnOf(l *List, e api.Expr) int {
	switch {
	case e.Op == api.Lit && e.Value.Kind == api.Int:
		refuse(e.Value.N < 1, api.ErrForm)
		column := l.nth(int(e.Value.N - 1))
		refuse(column < 0, api.ErrForm)
		return column
	case e.Op == api.Col && e.Table == "":
		return l.named(e.Name)
	}
	return -1
}

// ahead of the groups of a core.
func (b *binder) ahead(c *scope) setting { return setting{binder: b, here: c, queries: true} }

// behind the groups of a core.
func (b *binder) behind(c *scope) setting {
	return setting{binder: b, here: c, queries: true, aggregates: true}
}

// core of a query: its scope, itself, and its columns; ordered: an aggregate stands in its ORDER BY.
func (b *binder) core(outer *scope, c api.Core, ordered bool) (*scope, Core, *List) {
	refuse(len(c.From) > api.MaxFrom, api.ErrLarge)
	s := newScope(outer)
	ahead, behind := b.ahead(s), b.behind(s)
	made := Core{Depth: s.depth, Distinct: c.Distinct}
	for _, f := range c.From {
		from := s.width
		x := b.source(s, f)
		x.Join, x.From, x.To, x.On = f.Join, from, s.width, ahead.truths(f.On)
		made.Sources = append(made.Sources, x)
	}
	made.Where = ahead.truths(c.Where)
	made.Group = ahead.terms(c.Group)
	s.group(made.Group)
	s.grouped = ordered || len(c.Group) > 0 || len(c.Having) > 0 || slices.ContainsFunc(c.Items, itemGathers)
	made.Grouped = s.grouped
	items, columns := behind.items(c.Items)
	made.Items = items
	made.Having = behind.truths(c.Having)
	for _, t := range made.Having {
		s.fit(t)
	}
	made.Aggregates = s.aggregates
	b.cores = append(b.cores, made)
	return s, made, columns
}

// source of a core, a table or a query, comes to its scope. A query sees just what is further out.
func (b *binder) source(s *scope, f api.From) Source {
	if len(f.Sub) > 0 {
		q := b.query(s.outer, f.Sub[0])
		s.add(f.As, q.Columns)
		return Source{Query: q}
	}
	n := tableNumber(b.tables, f.Table)
	refuse(n < 0, api.ErrMissing)
	name := f.As
	if name == "" {
		name = f.Table
	}
	s.add(name, b.tableList(b.tables[n].Columns))
	return Source{Table: n}
}
