package bind

import (
	"slices"

	"relstore/api"
	"relstore/value"
)

// Reading: which rows of a table, by its number, a statement looks at: those of which all these terms are true. In them a column is told by its number in the table.
type Reading struct {
	Table int
	Where []Term
}

// Readings of a statement: of each table in a FROM, and of the one whose rows are turned or go; or Check's error.
func Readings(tables []api.Table, s api.Stmt) ([]Reading, api.Errno) {
	b := newBinder(tables, false)
	if e := caught(func() { b.statement(s) }); e != api.OK {
		return nil, e
	}
	var l []Reading
	for _, c := range b.cores {
		for i, x := range c.Sources {
			if x.Query == nil {
				l = append(l, Reading{x.Table, c.own(i)})
			}
		}
	}
	return l, api.OK
}

// turning: a statement turns those rows of a table that meet WHERE, as if the table were the source of a core.
func (b *binder) turning(table string, where []Term) {
	from := Source{Join: api.Cross, Table: tableNumber(b.tables, table)}
	b.cores = append(b.cores, Core{Sources: []Source{from}, Where: where})
}

// own conditions of a source. One of a LEFT JOIN has none: that a row is not there may be seen, too.
func (c Core) own(source int) []Term {
	if c.Sources[source].Join == api.Left {
		return nil
	}
	return c.ownParts(nil, source, c.Where)
}

// ownParts of terms, split at AND, that speak of nothing but a source come to a list.
func (c Core) ownParts(l []Term, source int, terms []Term) []Term {
	for _, t := range terms {
		switch {
		case t.Op == api.And:
			l = c.ownParts(l, source, t.Parts)
		case c.isOwn(source, t):
			l = append(l, t.moved(c.Sources[source].From))
		}
	}
	return l
}

// isOwn: does nothing but columns of a source and constants stand in a term?
func (c Core) isOwn(source int, t Term) bool {
	if t.Op == api.Col {
		return t.Place.Depth == c.Depth && t.Place.Source == source
	}
	return t.Query == nil && !slices.ContainsFunc(t.Parts, func(p Term) bool { return !c.isOwn(source, p) })
}

// moved: a term over rows of a core, as one over those of the source whose columns stand there from this place on.
func (t Term) moved(from int) Term {
	if t.Op == api.Col {
		t.Place = Place{At: t.Place.At - from}
	}
	parts := make([]Term, len(t.Parts))
	for i, p := range t.Parts {
		parts[i] = p.moved(from)
	}
	t.Parts = parts
	return t
}

// Sign of what a reading asks of rows: the same for terms that are made the same way, and for no others.
func (r Reading) Sign() string {
	var b []byte
	for _, t := range r.Where {
		b = t.sign(b)
	}
	return string(b)
}

// sign of a term, behind other bytes. It tells how many parts there are, so that it has an end.
func (t Term) sign(b []byte) []byte {
	number := func(n int) api.Value { return api.Value{Kind: api.Int, N: int64(n)} }
	name := api.Value{Kind: api.Text, S: t.Name}
	b = append(b, value.Key([]api.Value{number(t.Op), name, t.Value, number(t.Form), number(t.Place.At), number(len(t.Parts))})...)
	for _, p := range t.Parts {
		b = p.sign(b)
	}
	return b
}
