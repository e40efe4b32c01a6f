package relstore

import (
	"slices"

	"relstore/api"
)

// apply turns to the rows of a table, if they are as it says then.
func (w *work) apply(t table, turns []turn) int {
	w.obey(t, turns)
	w.write(t, turns)
	return len(turns)
}

// insert rows: how many came.
func (w *work) insert(tables []table, s api.Stmt) int {
	t := named(tables, s.Table)
	columns := t.numbers(s.Names)
	var turns []turn
	for _, values := range w.told(tables, s) {
		row := t.defaults()
		for i, n := range columns {
			row[n] = values[i]
		}
		turns = append(turns, turn{after: row})
	}
	return w.apply(t, turns)
}

// told by an INSERT: the values of its rows.
func (w *work) told(tables []table, s api.Stmt) [][]api.Value {
	if len(s.Query) > 0 {
		return w.answer(tables, s.Query[0]).Rows
	}
	// All of them are one row of a query, so that the tables in them are looked at once.
	row := w.answer(tables, selected(api.Core{Items: items(slices.Concat(s.Rows...))})).Rows[0]
	return slices.Collect(slices.Chunk(row, len(s.Rows[0])))
}

// numbers of the columns of these names; of all, if there are no names.
func (t table) numbers(names []string) []int {
	var l []int
	for _, name := range names {
		l = append(l, t.column(name))
	}
	if len(names) > 0 {
		return l
	}
	for i := range t.Columns {
		l = append(l, i)
	}
	return l
}

// column of this name: its number.
func (t table) column(name string) int {
	return slices.IndexFunc(t.Columns, func(c api.ColumnDef) bool { return c.Name == name })
}

// defaults: a row of which nothing is told.
func (t table) defaults() []api.Value {
	row := make([]api.Value, len(t.Columns))
	for i, c := range t.Columns {
		if len(c.Default) > 0 {
			row[i] = c.Default[0]
		}
	}
	return row
}

// update rows: how many were turned.
func (w *work) update(tables []table, s api.Stmt) int {
	t := named(tables, s.Table)
	var exprs []api.Expr
	for _, x := range s.Sets {
		exprs = append(exprs, x.Expr)
	}
	width := len(t.Columns)
	var turns []turn
	for _, row := range w.meeting(tables, t, exprs, s.Where) {
		after := slices.Clone(row[:width])
		for i, x := range s.Sets {
			after[t.column(x.Column)] = row[width+1+i]
		}
		turns = append(turns, turn{row[width].N, row[:width], after})
	}
	return w.apply(t, turns)
}

// remove rows: how many went.
func (w *work) remove(tables []table, s api.Stmt) int {
	t := named(tables, s.Table)
	width := len(t.Columns)
	var turns []turn
	for _, row := range w.meeting(tables, t, nil, s.Where) {
		turns = append(turns, turn{id: row[width].N, before: row[:width]})
	}
	return w.apply(t, turns)
}
