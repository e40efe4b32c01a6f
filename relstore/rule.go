package relstore

import (
	"slices"

	"relstore/api"
	"relstore/query"
	"relstore/value"
)

// maxOrderKey: how many bytes the values of a row take at most in a key or an index, as its number stands behind them.
const maxOrderKey = api.MaxKey - rowKeySize

// obey: the rows of a table as they are behind some turns must be as it says.
func (w *work) obey(t table, turns []turn) {
	rows := becoming(turns)
	refuse(slices.ContainsFunc(rows, t.lacks), api.ErrNull)
	refuse(t.breaksCheck(rows), api.ErrCheck)
	refuse(slices.ContainsFunc(rows, t.tooLarge), api.ErrLarge)
	unique := t.uniqueOrders()
	for _, o := range unique {
		w.read.alike(t, o, rows)
	}
	refuse(slices.ContainsFunc(unique, func(o order) bool { return w.twice(o, turns) }), api.ErrUnique)
}

// uniqueOrders of a table: those in which no two rows may be alike.
func (t table) uniqueOrders() []order {
	return slices.DeleteFunc(slices.Clone(t.orders), func(o order) bool { return !o.unique })
}

// becoming: the rows that come or are turned, as they become.
func becoming(turns []turn) [][]api.Value {
	var rows [][]api.Value
	for _, x := range turns {
		if x.after != nil {
			rows = append(rows, x.after)
		}
	}
	return rows
}

func isNull(v api.Value) bool { return v.Kind == api.Null }

// lacks: has a row null where it may not be?
func (t table) lacks(row []api.Value) bool {
	for i, c := range t.Columns {
		if c.NotNull && isNull(row[i]) {
			return true
		}
	}
	return false
}

// breaksCheck: is a check of the table false of a row?
func (t table) breaksCheck(rows [][]api.Value) bool {
	if len(t.Checks) == 0 {
		return false
	}
	one := api.Item{Expr: api.Expr{Op: api.Lit, Value: number(1)}}
	core := api.Core{Items: []api.Item{one}, From: []api.From{{Join: api.Cross, Table: t.Name}}}
	core.Where = []api.Expr{falseOne(t.Checks)}
	answer, e := query.Answer([]api.Data{{Table: t.Table, Rows: rows}}, selected(core))
	check(e)
	return len(answer.Rows) > 0
}

// falseOne: that one of some expressions is false.
func falseOne(l []api.Expr) api.Expr {
	first := api.Expr{Op: api.Not, Args: l[:1]}
	if len(l) == 1 {
		return first
	}
	return api.Expr{Op: api.Or, Args: []api.Expr{first, falseOne(l[1:])}}
}

// tooLarge: is there no room for a row, in the table or in one of its orders?
func (t table) tooLarge(row []api.Value) bool {
	s, e := value.Pack(row)
	return e != api.OK || len(s) > api.MaxValue || slices.ContainsFunc(t.orders, func(o order) bool { return o.tooLarge(row) })
}

func (o order) tooLarge(row []api.Value) bool { return len(o.key(row)) > maxOrderKey }

// isFree: has a row null in a column of an order, so that others may have the same values?
func (o order) isFree(row []api.Value) bool {
	return slices.ContainsFunc(picked(row, o.columns), isNull)
}

// twice: have two rows the same values in the columns of an order, behind some turns?
func (w *work) twice(o order, turns []turn) bool {
	gone, seen := map[string]struct{}{}, map[string]struct{}{}
	for _, x := range turns {
		if x.before != nil {
			gone[keyOf(number(x.id))] = struct{}{}
		}
	}
	stays := func(row string) bool {
		_, is := gone[row]
		return !is
	}
	for _, row := range becoming(turns) {
		if o.isFree(row) {
			continue
		}
		key := o.key(row)
		if _, is := seen[key]; is || slices.ContainsFunc(w.rowKeys(o, key), stays) {
			return true
		}
		seen[key] = struct{}{}
	}
	return false
}
