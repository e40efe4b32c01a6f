package relstore

import (
	"math"
	"slices"

	"relstore/api"
	"relstore/bind"
	"relstore/sql"
	"relstore/value"
)

// catalog: the table of entries with the definitions of all tables. The keys of a definition have the table's name, and then:
// nothing: the number of the table of entries that has its rows;
// false and 0, 1 and so on: the statement that makes it, in pieces;
// true and the number of an index: its name, whether it is a unique one, its columns.
const catalog = 0

// table of the database, and where its rows are.
type table struct {
	api.Table
	number int // of the table of entries that has its rows, by their numbers
	orders []order
}

// order of the rows of a table, by a key or an index: a table of entries without values, whose keys are those of the values in some columns, with the row's number behind them.
type order struct {
	number  int
	columns []int
	unique  bool
}

func truth(is bool) api.Value {
	if is {
		return api.Value{Kind: api.Bool, N: 1}
	}
	return api.Value{Kind: api.Bool}
}

func number(n int64) api.Value { return api.Value{Kind: api.Int, N: n} }

func text(s string) api.Value { return api.Value{Kind: api.Text, S: s} }

// keyOf values.
func keyOf(l ...api.Value) string { return value.Key(l) }

// packed values, which must not be too many or too long.
func packed(l []api.Value) string {
	s, e := value.Pack(l)
	check(e)
	return s
}

// unpacked: the values of an entry.
func unpacked(s string) []api.Value {
	l, e := value.Unpack(s)
	check(e)
	return l
}

// unkeyed: the values of a key.
func unkeyed(s string) []api.Value {
	l, e := value.Unkey(s)
	check(e)
	return l
}

// tablesOf a statement: those that it must know. Their definitions are read, and so is that there are none.
func (w *work) tablesOf(s api.Stmt) []table {
	if s.Kind == api.CreateIndex || s.Kind == api.DropIndex {
		// Any table may have an index of that name.
		w.read.allDefinitions()
		return w.allTables()
	}
	names := namesIn(s)
	w.read.definitionsOf(names)
	var tables []table
	for _, name := range names {
		if l := w.peek(catalog, behind(keyOf(text(name)))); len(l) > 0 {
			tables = append(tables, read(l))
		}
	}
	return tables
}

// allTables that there are.
func (w *work) allTables() []table {
	var tables []table
	l := w.peek(catalog, everything())
	for len(l) > 0 {
		name := unkeyed(l[0].Key)[0]
		end := slices.IndexFunc(l, func(n api.Entry) bool { return n.Key >= behind(keyOf(name)).to })
		if end < 0 {
			end = len(l)
		}
		tables = append(tables, read(l[:end]))
		l = l[end:]
	}
	return tables
}

// read a definition: the table.
func read(l []api.Entry) table {
	t := table{number: tableNumber(unpacked(l[0].Value)[0])}
	statement := ""
	for _, n := range l[1:] {
		if unkeyed(n.Key)[1] == truth(false) {
			statement += n.Value
		}
	}
	t.define(statement)
	for _, n := range l[1:] {
		if part := unkeyed(n.Key); part[1] == truth(true) {
			t.readIndex(tableNumber(part[2]), unpacked(n.Value))
		}
	}
	return t
}

// tableNumber that an entry tells.
func tableNumber(v api.Value) int {
	refuse(v.Kind != api.Int || v.N <= catalog || v.N > math.MaxInt32, api.ErrDamage)
	return int(v.N)
}

// define a table by the statement that makes it.
func (t *table) define(statement string) {
	l, e, _ := sql.Parse(statement)
	refuse(e != api.OK || len(l) != 1, api.ErrDamage)
	t.Table, e = bind.Define(nil, l[0])
	refuse(e != api.OK, api.ErrDamage)
	for i, columns := range t.Keys {
		t.orders = append(t.orders, order{t.number + 1 + i, columns, true})
	}
}

// readIndex of a table.
func (t *table) readIndex(number int, l []api.Value) {
	o := order{number: number, unique: l[1] == truth(true)}
	for _, v := range l[2:] {
		refuse(v.N < 0 || v.N >= int64(len(t.Columns)), api.ErrDamage)
		o.columns = append(o.columns, int(v.N))
	}
	t.orders = append(t.orders, o)
	t.Indexes = append(t.Indexes, api.Index{Name: l[0].S, Columns: o.columns, Unique: o.unique})
}

// writeTable: the definition of a table that a statement makes.
func (w *work) writeTable(t table, s api.Stmt) {
	name := text(t.Name)
	w.put(catalog, keyOf(name), packed([]api.Value{number(int64(t.number))}))
	pieces := slices.Chunk([]byte(sql.Print(s)), api.MaxValue)
	at := int64(0)
	for piece := range pieces {
		w.put(catalog, keyOf(name, truth(false), number(at)), string(piece))
		at++
	}
}

// indexKey: the key of an index in the catalog.
func (t table) indexKey(o order) string {
	return keyOf(text(t.Name), truth(true), number(int64(o.number)))
}

// writeIndex of a table.
func (w *work) writeIndex(t table, name string, o order) {
	l := []api.Value{text(name), truth(o.unique)}
	for _, n := range o.columns {
		l = append(l, number(int64(n)))
	}
	w.put(catalog, t.indexKey(o), packed(l))
}

// definitions of tables.
func definitions(tables []table) []api.Table {
	var l []api.Table
	for _, t := range tables {
		l = append(l, t.Table)
	}
	return l
}

// named: the table of this name, which there is.
func named(tables []table, name string) table {
	return tables[slices.IndexFunc(tables, func(t table) bool { return t.Name == name })]
}

// count which numbers were given to the tables and rows that there are.
func (s *Store) count() {
	w := s.begin()
	defer w.tx.Rollback()
	for _, t := range w.allTables() {
		s.tables = max(s.tables, t.number+len(t.Keys))
		for _, o := range t.orders {
			s.tables = max(s.tables, o.number)
		}
		last, is, e := s.data.Last(t.number)
		check(e)
		if is {
			s.rows = max(s.rows, unkeyed(last)[0].N)
		}
	}
}

// newTables: the first one of so many numbers of tables of entries. A number is never given twice, so that two transactions cannot take the same one, and a table that is made again is another one.
func (s *Store) newTables(count int) int {
	refuse(s.tables > math.MaxInt32-count, api.ErrLarge)
	first := s.tables + 1
	s.tables += count
	return first
}

// newRow: a row's number, which is never given twice, either.
func (s *Store) newRow() int64 {
	refuse(s.rows == math.MaxInt64, api.ErrLarge)
	s.rows++
	return s.rows
}
