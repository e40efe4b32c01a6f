package relstore

import (
	"slices"

	"relstore/api"
	"relstore/bind"
)

// createTable that a statement tells.
func (w *work) createTable(s api.Stmt) {
	made, e := bind.Define(nil, s)
	check(e)
	w.writeTable(table{Table: made, number: w.newTables(1 + len(made.Keys))}, s)
}

// createIndex that a statement tells, over the rows that there are.
func (w *work) createIndex(tables []table, s api.Stmt) {
	n, made, e := bind.Index(definitions(tables), s)
	check(e)
	t := tables[n]
	w.read.allRows(t)
	o := order{columns: made.Columns, unique: made.Unique}
	rows := w.all(t)
	refuse(slices.ContainsFunc(rows, func(r api.Row) bool { return o.tooLarge(r.Values) }), api.ErrLarge)
	refuse(o.unique && o.repeats(rows), api.ErrUnique)
	o.number = w.newTables(1)
	w.writeIndex(t, made.Name, o)
	for _, r := range rows {
		w.writeOrder(o, turn{after: r.Values}, keyOf(number(r.Id)))
	}
}

// repeats: have two rows the same values in the columns of an order, none of them null?
func (o order) repeats(rows []api.Row) bool {
	seen := map[string]struct{}{}
	for _, r := range rows {
		if o.isFree(r.Values) {
			continue
		}
		key := o.key(r.Values)
		if _, is := seen[key]; is {
			return true
		}
		seen[key] = struct{}{}
	}
	return false
}

// dropTable, with all its rows.
func (w *work) dropTable(t table) {
	w.read.allRows(t)
	var turns []turn
	for _, r := range w.all(t) {
		turns = append(turns, turn{id: r.Id, before: r.Values})
	}
	w.write(t, turns)
	w.eraseAll(catalog, behind(keyOf(text(t.Name))))
}

// dropIndex of this name, of whichever table.
func (w *work) dropIndex(tables []table, name string) {
	for _, t := range tables {
		for i, x := range t.Indexes {
			if x.Name == name {
				o := t.orders[len(t.Keys)+i]
				w.dropped = append(w.dropped, drop{o.number, w.tx.Mark()})
				w.eraseAll(o.number, everything())
				w.erase(catalog, t.indexKey(o))
			}
		}
	}
}

// eraseAll entries of a range.
func (w *work) eraseAll(table int, r span) {
	for _, n := range w.peek(table, r) {
		w.erase(table, n.Key)
	}
}
