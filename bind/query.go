package bind

import (
	"slices"
	"strconv"

	"relstore/api"
)

// maxWide: how many columns the stars of a call may give in all. Only queries that are sources of one another give more, up to more than there is memory for.
const maxWide = 1 << 22

// binder: what one call knows.
type binder struct {
	tables []api.Table
	wide   int    // how many columns its stars have given so far
	spoken []term // the columns that were named so far, one behind the other
}

func newBinder(tables []api.Table) *binder { return &binder{tables: tables} }

// query, and what its ORDER BY says: its columns.
func (b *binder) query(outer *scope, q api.Select) []api.Column {
	only := len(q.Cores) == 1
	first, columns := b.core(outer, q.Cores[0], only && slices.ContainsFunc(q.Order, orderGathers))
	for _, c := range q.Cores[1:] {
		_, further := b.core(outer, c, false)
		refuse(len(further) != len(columns), api.ErrForm)
		for i := range columns {
			columns[i].Kind = alike(columns[i].Kind, further[i].Kind)
		}
	}
	for _, o := range q.Order {
		if isColumnOf(columns, o.Expr) {
			continue
		}
		refuse(!only || q.Cores[0].Distinct, api.ErrForm)
		first.fit(b.behind(first).term(o.Expr))
	}
	return columns
}

// isColumnOf a query: does an expression of ORDER BY tell one of its columns, by its number or its name?
func isColumnOf(columns []api.Column, e api.Expr) bool {
	switch {
	case e.Op == api.Lit && e.Value.Kind == api.Int:
		refuse(e.Value.N < 1 || e.Value.N > int64(len(columns)), api.ErrForm)
		return true
	case e.Op == api.Col && e.Table == "":
		return slices.ContainsFunc(columns, func(c api.Column) bool { return c.Name == e.Name })
	}
	return false
}

// ahead of the groups of a core.
func (b *binder) ahead(c *scope) setting { return setting{binder: b, here: c, queries: true} }

// behind the groups of a core.
func (b *binder) behind(c *scope) setting {
	return setting{binder: b, here: c, queries: true, aggregates: true}
}

// core of a query: its scope and its columns; ordered: an aggregate stands in its ORDER BY.
func (b *binder) core(outer *scope, c api.Core, ordered bool) (*scope, []api.Column) {
	refuse(len(c.From) > api.MaxFrom, api.ErrLarge)
	s := &scope{outer: outer}
	ahead, behind := b.ahead(s), b.behind(s)
	for _, f := range c.From {
		s.add(b.source(outer, f))
		ahead.truths(f.On)
	}
	ahead.truths(c.Where)
	s.group(ahead.terms(c.Group))
	s.grouped = ordered || len(c.Group) > 0 || len(c.Having) > 0 || slices.ContainsFunc(c.Items, itemGathers)
	columns := behind.items(c.Items)
	for _, t := range behind.truths(c.Having) {
		s.fit(t)
	}
	return s, columns
}

// source of a core: a table, or a query, which sees just what is further out.
func (b *binder) source(outer *scope, f api.From) source {
	if len(f.Sub) > 0 {
		return querySource(f.As, b.query(outer, f.Sub[0]))
	}
	columns := b.table(f.Table).Columns
	if f.As != "" {
		return tableSource(f.As, columns)
	}
	return tableSource(f.Table, columns)
}

// items of a core: its columns.
func (x setting) items(items []api.Item) []api.Column {
	var l []api.Column
	for _, i := range items {
		if i.Star {
			l = append(l, x.star(i.Table)...)
			continue
		}
		t := x.term(i.Expr)
		x.here.fit(t)
		l = append(l, api.Column{Name: itemName(i, len(l)+1), Kind: t.kind})
	}
	return l
}

// itemName: the name of the column that an item is; number: which one it is.
func itemName(i api.Item, number int) string {
	switch {
	case i.As != "":
		return i.As
	case i.Expr.Op == api.Col:
		return i.Expr.Name
	}
	return "column" + strconv.Itoa(number)
}

// star: all columns of the source of this name; of all sources, if there is no name.
func (x setting) star(name string) []api.Column {
	refuse(name == "" && len(x.here.sources) == 0, api.ErrForm)
	refuse(name != "" && !x.here.has(name), api.ErrName)
	var l []api.Column
	for _, s := range x.here.sources {
		if name != "" && name != s.name {
			continue
		}
		x.widen(len(s.columns))
		for _, c := range s.columns {
			refuse(x.here.grouped && !c.grouped, api.ErrForm)
			l = append(l, api.Column{Name: c.name, Kind: c.kind})
		}
	}
	return l
}

// widen: a star gives so many columns more.
func (b *binder) widen(more int) {
	b.wide += more
	refuse(b.wide > maxWide, api.ErrLarge)
}
