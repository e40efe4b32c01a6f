package relstore

import (
	"relstore/api"
	"relstore/bind"
	"relstore/mvcc"
)

// work of a statement, in a transaction.
type work struct {
	*Store
	tx *mvcc.Tx
}

// result of a statement.
func (c *Session) result(s api.Stmt) api.Result {
	var r api.Result
	if e := caught(func() { r = c.do(s) }); e != api.OK {
		return api.Result{Kind: s.Kind, Err: e}
	}
	r.Kind = s.Kind
	return r
}

// do a statement.
func (c *Session) do(s api.Stmt) api.Result {
	switch s.Kind {
	case api.Begin, api.Commit, api.Rollback, api.Savepoint, api.Release:
		// There is no transaction but that of each statement.
		panic(fault{api.ErrState})
	case api.Checkpoint:
		check(c.store.data.Checkpoint())
		return api.Result{}
	}
	return c.store.alone(s)
}

// alone: a statement that is a transaction of its own.
func (s *Store) alone(t api.Stmt) api.Result {
	w := &work{s, s.data.Begin()}
	var r api.Result
	e := caught(func() { r = w.do(t) })
	if e != api.OK {
		w.tx.Rollback()
		panic(fault{e})
	}
	check(w.tx.Commit())
	return r
}

// do a statement that asks for tables or turns them.
func (w *work) do(s api.Stmt) api.Result {
	tables := w.tablesOf(s)
	if s.Kind == api.Query {
		// The answer has the errors of what it means, too.
		answer := w.answer(tables, s.Query[0])
		return api.Result{Columns: answer.Columns, Rows: answer.Rows}
	}
	check(bind.Check(definitions(tables), s))
	switch s.Kind {
	case api.Insert:
		return api.Result{Count: w.insert(tables, s)}
	case api.Update:
		return api.Result{Count: w.update(tables, s)}
	case api.Delete:
		return api.Result{Count: w.remove(tables, s)}
	case api.CreateTable:
		w.createTable(s)
	case api.CreateIndex:
		w.createIndex(tables, s)
	case api.DropTable:
		w.dropTable(named(tables, s.Table))
	case api.DropIndex:
		w.dropIndex(tables, s.Name)
	}
	return api.Result{}
}

// peek at the entries of a range.
func (w *work) peek(table int, r span) []api.Entry {
	l, e := w.tx.Peek(table, r.from, r.to)
	check(e)
	return l
}

func (w *work) put(table int, key, value string) { check(w.tx.Put(table, key, value)) }

func (w *work) erase(table int, key string) { check(w.tx.Erase(table, key)) }

// span: a range of keys.
type span struct{ from, to string }

// everything: all keys of a table.
func everything() span { return span{} }

// behind: all keys that begin with one that Key gives, and have more behind it: no value of a key begins with the byte 255.
func behind(key string) span { return span{key, key + "\xff"} }
