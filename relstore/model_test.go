package relstore_test

import (
	"slices"

	"relstore/api"
	"relstore/bind"
	"relstore/query"
	"relstore/value"
)

// model of a database by the document's words: tables with their rows. Nothing in it is found by a key.
type model struct {
	list []relation
	made *int          // how many tables, indexes and rows were made so far: each has a number of its own
	keys [][]api.Value // the rows that the last statement has brought or turned, if none of them was null, false or large
}

// relation: a table with its rows.
type relation struct {
	api.Table
	number  int
	indexes []int // the indexes' numbers
	rows    []line
}

// line: a row with its number.
type line struct {
	number int
	values []api.Value
}

func newModel() *model { return &model{made: new(int)} }

// next number.
func (m *model) next() int {
	*m.made++
	return *m.made
}

// copied: rows, indexes and columns are never written over, but lists of rows are.
func (m *model) copied() *model {
	return &model{list: slices.Clone(m.list), made: m.made}
}

func (m *model) tables() []api.Table {
	var l []api.Table
	for _, r := range m.list {
		l = append(l, r.Table)
	}
	return l
}

func (r relation) values() [][]api.Value {
	var l [][]api.Value
	for _, x := range r.rows {
		l = append(l, x.values)
	}
	return l
}

func (m *model) data() []api.Data {
	var l []api.Data
	for _, r := range m.list {
		l = append(l, api.Data{Table: r.Table, Rows: r.values()})
	}
	return l
}

// table of this name: its place in the list.
func (m *model) table(name string) int {
	return slices.IndexFunc(m.list, func(r relation) bool { return r.Name == name })
}

// do a statement.
func (m *model) do(s api.Stmt) api.Result {
	refused := func(e api.Errno) api.Result { return api.Result{Kind: s.Kind, Err: e} }
	m.keys = nil
	if e := bind.Check(m.tables(), s); e != api.OK {
		return refused(e)
	}
	r := api.Result{Kind: s.Kind}
	e := api.OK
	switch s.Kind {
	case api.Query:
		rows, e := query.Answer(m.data(), s.Query[0])
		if e != api.OK {
			return refused(e)
		}
		r.Columns, r.Rows = rows.Columns, rows.Rows
	case api.Insert:
		r.Count, e = m.insert(s)
	case api.Update, api.Delete:
		r.Count, e = m.turn(s)
	case api.CreateTable:
		t, _ := bind.Define(m.tables(), s)
		m.list = append(m.list, relation{Table: t, number: m.next()})
	case api.CreateIndex:
		e = m.index(s)
	case api.DropTable:
		m.list = slices.Delete(m.list, m.table(s.Table), m.table(s.Table)+1)
	case api.DropIndex:
		m.dropIndex(s.Name)
	}
	if e != api.OK {
		return refused(e)
	}
	return r
}

// valued: what an expression is, where there are no columns.
func (m *model) valued(e api.Expr) api.Value {
	rows, _ := query.Answer(m.data(), api.Select{Cores: []api.Core{{Items: []api.Item{{Expr: e}}}}, Limit: -1})
	return rows.Rows[0][0]
}

// told by an INSERT.
func (m *model) told(s api.Stmt) [][]api.Value {
	if len(s.Query) > 0 {
		rows, _ := query.Answer(m.data(), s.Query[0])
		return rows.Rows
	}
	var l [][]api.Value
	for _, exprs := range s.Rows {
		var row []api.Value
		for _, e := range exprs {
			row = append(row, m.valued(e))
		}
		l = append(l, row)
	}
	return l
}

func columnOf(t api.Table, name string) int {
	return slices.IndexFunc(t.Columns, func(c api.ColumnDef) bool { return c.Name == name })
}

func (m *model) insert(s api.Stmt) (int, api.Errno) {
	r := &m.list[m.table(s.Table)]
	all := slices.Clone(r.rows)
	var rows [][]api.Value
	for _, values := range m.told(s) {
		row := make([]api.Value, len(r.Columns))
		for i, c := range r.Columns {
			for _, v := range c.Default {
				row[i] = v
			}
			if len(s.Names) == 0 {
				row[i] = values[i]
			}
		}
		for i, name := range s.Names {
			row[columnOf(r.Table, name)] = values[i]
		}
		rows, all = append(rows, row), append(all, line{m.next(), row})
	}
	return len(rows), m.leave(r, rows, all)
}

// turn rows: those for which WHERE is true are others, or go.
func (m *model) turn(s api.Stmt) (int, api.Errno) {
	r := &m.list[m.table(s.Table)]
	var turned [][]api.Value
	var all []line
	count := 0
	for _, x := range r.rows {
		core := api.Core{Items: []api.Item{{Expr: one()}}, From: []api.From{{Join: api.Cross, Table: "\x01", As: s.Table}}, Where: s.Where}
		for _, y := range s.Sets {
			core.Items = append(core.Items, api.Item{Expr: y.Expr})
		}
		alone := api.Data{Table: api.Table{Name: "\x01", Columns: r.Columns}, Rows: [][]api.Value{x.values}}
		rows, _ := query.Answer(append(m.data(), alone), api.Select{Cores: []api.Core{core}, Limit: -1})
		if len(rows.Rows) == 0 {
			all = append(all, x)
			continue
		}
		count++
		if s.Kind == api.Delete {
			continue
		}
		row := slices.Clone(x.values)
		for i, y := range s.Sets {
			row[columnOf(r.Table, y.Column)] = rows.Rows[0][1+i]
		}
		turned, all = append(turned, row), append(all, line{x.number, row})
	}
	return count, m.leave(r, turned, all)
}

// one: the number, as an expression.
func one() api.Expr { return api.Expr{Op: api.Lit, Value: api.Value{Kind: api.Int, N: 1}} }

// leave a table with these rows, of which some are new.
func (m *model) leave(r *relation, fresh [][]api.Value, all []line) api.Errno {
	for _, row := range fresh {
		for i, c := range r.Columns {
			if c.NotNull && row[i].Kind == api.Null {
				return api.ErrNull
			}
		}
	}
	for _, row := range fresh {
		for _, c := range r.Checks {
			rows, _ := query.Answer([]api.Data{{Table: r.Table, Rows: [][]api.Value{row}}}, api.Select{Cores: []api.Core{{Items: []api.Item{{Expr: c}}, From: []api.From{{Join: api.Cross, Table: r.Name}}}}, Limit: -1})
			if rows.Rows[0][0] == (api.Value{Kind: api.Bool}) {
				return api.ErrCheck
			}
		}
	}
	for _, row := range fresh {
		if s, e := value.Pack(row); e != api.OK || len(s) > api.MaxValue || slices.ContainsFunc(orders(r.Table, false), func(o []int) bool { return longKey(row, o) }) {
			return api.ErrLarge
		}
	}
	m.keys = fresh
	left := relation{rows: all}.values()
	if slices.ContainsFunc(orders(r.Table, true), func(o []int) bool { return repeats(left, o) }) {
		return api.ErrUnique
	}
	r.rows = all
	return api.OK
}

// orders of a table: the columns of its keys and indexes, of all or just of those that are unique.
func orders(t api.Table, unique bool) [][]int {
	l := slices.Clone(t.Keys)
	for _, x := range t.Indexes {
		if x.Unique || !unique {
			l = append(l, x.Columns)
		}
	}
	return l
}

func some(row []api.Value, columns []int) []api.Value {
	var l []api.Value
	for _, n := range columns {
		l = append(l, row[n])
	}
	return l
}

func longKey(row []api.Value, columns []int) bool { return len(value.Key(some(row, columns))) > 191 }

// repeats: have two rows the same values in these columns, none of them null?
func repeats(rows [][]api.Value, columns []int) bool {
	for i, row := range rows {
		x := some(row, columns)
		if slices.Contains(x, api.Value{}) {
			continue
		}
		if slices.ContainsFunc(rows[:i], func(other []api.Value) bool { return value.Rows(x, some(other, columns)) == 0 }) {
			return true
		}
	}
	return false
}

func (m *model) index(s api.Stmt) api.Errno {
	n, x, _ := bind.Index(m.tables(), s)
	r := &m.list[n]
	if slices.ContainsFunc(r.values(), func(row []api.Value) bool { return longKey(row, x.Columns) }) {
		return api.ErrLarge
	}
	if x.Unique && repeats(r.values(), x.Columns) {
		return api.ErrUnique
	}
	r.Indexes, r.indexes = append(slices.Clone(r.Indexes), x), append(slices.Clone(r.indexes), m.next())
	return api.OK
}

func (m *model) dropIndex(name string) {
	for i := range m.list {
		r := &m.list[i]
		if n := slices.IndexFunc(r.Indexes, func(x api.Index) bool { return x.Name == name }); n >= 0 {
			r.Indexes, r.indexes = slices.Delete(slices.Clone(r.Indexes), n, n+1), slices.Delete(slices.Clone(r.indexes), n, n+1)
		}
	}
}

func rowsOrder(a, b []api.Value) int { return value.Rows(a, b) }
