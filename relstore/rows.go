package relstore

import (
	"relstore/api"
	"relstore/value"
)

// rowKeySize: how many bytes the number of a row takes in a key.
const rowKeySize = 9

// turn of a row: as it was (nil: it comes), and as it becomes (nil: it goes).
type turn struct {
	id            int64
	before, after []api.Value
}

// all rows of a table.
func (w *work) all(t table) []api.Row {
	var rows []api.Row
	for _, n := range w.peek(t.number, everything()) {
		rows = append(rows, t.row(n))
	}
	return rows
}

// row of a table that an entry is.
func (t table) row(n api.Entry) api.Row {
	r := api.Row{Id: unkeyed(n.Key)[0].N, Values: unpacked(n.Value)}
	refuse(len(r.Values) != len(t.Columns), api.ErrDamage)
	for i, v := range r.Values {
		refuse(!isNull(v) && v.Kind != t.Columns[i].Kind, api.ErrDamage)
	}
	return r
}

// find rows of a table by the values in the columns of a key or an index.
func (w *work) find(t table, o order, values []api.Value) []api.Row {
	var rows []api.Row
	for _, key := range w.rowKeys(o, value.Key(values)) {
		for _, n := range w.peek(t.number, span{key, key + "\x00"}) {
			rows = append(rows, t.row(n))
		}
	}
	return rows
}

// rowKeys: the keys of the rows with these values (a key) in the columns of a key or an index.
func (w *work) rowKeys(o order, values string) []string {
	var keys []string
	for _, n := range w.peek(o.number, behind(values)) {
		keys = append(keys, n.Key[len(values):])
	}
	return keys
}

// picked: the values of a row in some columns.
func picked(row []api.Value, columns []int) []api.Value {
	l := make([]api.Value, len(columns))
	for i, n := range columns {
		l[i] = row[n]
	}
	return l
}

// key of a row in an order, but for its number.
func (o order) key(row []api.Value) string { return value.Key(picked(row, o.columns)) }

// write turns of rows to a table.
func (w *work) write(t table, turns []turn) {
	for _, x := range turns {
		if x.before == nil {
			x.id = w.newRow()
		}
		row := keyOf(number(x.id))
		if x.after == nil {
			w.erase(t.number, row)
		} else {
			w.put(t.number, row, packed(x.after))
		}
		for _, o := range t.orders {
			w.writeOrder(o, x, row)
		}
	}
}

// writeOrder: what the turn of a row with this key turns in an order.
func (w *work) writeOrder(o order, x turn, row string) {
	if x.before != nil && x.after != nil && o.key(x.before) == o.key(x.after) {
		return
	}
	if x.before != nil {
		w.erase(o.number, o.key(x.before)+row)
	}
	if x.after != nil {
		w.put(o.number, o.key(x.after)+row, "")
	}
}
