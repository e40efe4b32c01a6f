package relstore

import (
	"relstore/api"
	"relstore/bind"
)

// do a statement that asks for tables or turns them.
func (w *work) do(s api.Stmt) api.Result {
	tables := w.tablesOf(s)
	l, e := bind.Readings(definitions(tables), s)
	check(e)
	w.read.meeting(tables, l)
	switch s.Kind {
	case api.Query:
		answer := w.answer(tables, s.Query[0])
		return api.Result{Columns: answer.Columns, Rows: answer.Rows}
	case api.Insert:
		return api.Result{Count: w.insert(tables, s)}
	case api.Update:
		return api.Result{Count: w.update(tables, s)}
	case api.Delete:
		return api.Result{Count: w.remove(tables, s)}
	case api.CreateTable:
		w.createTable(s)
	case api.CreateIndex:
		w.createIndex(tables, s)
	case api.DropTable:
		w.dropTable(named(tables, s.Table))
	case api.DropIndex:
		w.dropIndex(tables, s.Name)
	}
	return api.Result{}
}

// peek at the entries of a range.
func (w *work) peek(table int, r span) []api.Entry {
	l, e := w.tx.Peek(table, r.from, r.to)
	check(e)
	return l
}

func (w *work) put(table int, key, value string) { check(w.tx.Put(table, key, value)) }

func (w *work) erase(table int, key string) { check(w.tx.Erase(table, key)) }

// span: a range of keys.
type span struct{ from, to string }

// everything: all keys of a table.
func everything() span { return span{} }

// behind: all keys that begin with one that Key gives, and have more behind it: no value of a key begins with the byte 255.
func behind(key string) span { return span{key, key + "\xff"} }
