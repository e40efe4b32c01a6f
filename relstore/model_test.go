package relstore_test

import (
	"slices"

	"relstore/api"
	"relstore/bind"
	"relstore/query"
	"relstore/value"
)

// model of a database by the document's words: tables with their rows. Nothing in it is found by a key.
type model struct{ data []api.Data }

func (m *model) tables() []api.Table {
	var l []api.Table
	for _, d := range m.data {
		l = append(l, d.Table)
	}
	return l
}

// table of this name: its number.
func (m *model) table(name string) int {
	return slices.IndexFunc(m.data, func(d api.Data) bool { return d.Table.Name == name })
}

// do a statement.
func (m *model) do(s api.Stmt) api.Result {
	refused := func(e api.Errno) api.Result { return api.Result{Kind: s.Kind, Err: e} }
	if e := bind.Check(m.tables(), s); e != api.OK {
		return refused(e)
	}
	r := api.Result{Kind: s.Kind}
	e := api.OK
	switch s.Kind {
	case api.Query:
		rows, e := query.Answer(m.data, s.Query[0])
		if e != api.OK {
			return refused(e)
		}
		r.Columns, r.Rows = rows.Columns, rows.Rows
	case api.Insert:
		r.Count, e = m.insert(s)
	case api.Update, api.Delete:
		r.Count, e = m.turn(s)
	case api.CreateTable:
		t, _ := bind.Define(m.tables(), s)
		m.data = append(m.data, api.Data{Table: t})
	case api.CreateIndex:
		e = m.index(s)
	case api.DropTable:
		m.data = slices.Delete(m.data, m.table(s.Table), m.table(s.Table)+1)
	case api.DropIndex:
		for i := range m.data {
			m.data[i].Table.Indexes = slices.DeleteFunc(slices.Clone(m.data[i].Table.Indexes), func(x api.Index) bool { return x.Name == s.Name })
		}
	}
	if e != api.OK {
		return refused(e)
	}
	return r
}

// valued: what an expression is, where there are no columns.
func (m *model) valued(e api.Expr) api.Value {
	rows, _ := query.Answer(m.data, api.Select{Cores: []api.Core{{Items: []api.Item{{Expr: e}}}}, Limit: -1})
	return rows.Rows[0][0]
}

// told by an INSERT.
func (m *model) told(s api.Stmt) [][]api.Value {
	if len(s.Query) > 0 {
		rows, _ := query.Answer(m.data, s.Query[0])
		return rows.Rows
	}
	var l [][]api.Value
	for _, exprs := range s.Rows {
		var row []api.Value
		for _, e := range exprs {
			row = append(row, m.valued(e))
		}
		l = append(l, row)
	}
	return l
}

func columnOf(t api.Table, name string) int {
	return slices.IndexFunc(t.Columns, func(c api.ColumnDef) bool { return c.Name == name })
}

func (m *model) insert(s api.Stmt) (int, api.Errno) {
	d := &m.data[m.table(s.Table)]
	var rows [][]api.Value
	for _, values := range m.told(s) {
		row := make([]api.Value, len(d.Table.Columns))
		for i, c := range d.Table.Columns {
			for _, v := range c.Default {
				row[i] = v
			}
			if len(s.Names) == 0 {
				row[i] = values[i]
			}
		}
		for i, name := range s.Names {
			row[columnOf(d.Table, name)] = values[i]
		}
		rows = append(rows, row)
	}
	return len(rows), m.leave(d, rows, slices.Concat(d.Rows, rows))
}

// turn rows: those for which WHERE is true are others, or go.
func (m *model) turn(s api.Stmt) (int, api.Errno) {
	d := &m.data[m.table(s.Table)]
	var turned, all [][]api.Value
	count := 0
	for _, row := range d.Rows {
		core := api.Core{Items: []api.Item{{Expr: api.Expr{Op: api.Lit, Value: api.Value{Kind: api.Int, N: 1}}}}, From: []api.From{{Join: api.Cross, Table: "\x01", As: s.Table}}, Where: s.Where}
		for _, x := range s.Sets {
			core.Items = append(core.Items, api.Item{Expr: x.Expr})
		}
		alone := api.Data{Table: api.Table{Name: "\x01", Columns: d.Table.Columns}, Rows: [][]api.Value{row}}
		rows, _ := query.Answer(append(slices.Clone(m.data), alone), api.Select{Cores: []api.Core{core}, Limit: -1})
		if len(rows.Rows) == 0 {
			all = append(all, row)
			continue
		}
		count++
		if s.Kind == api.Delete {
			continue
		}
		row = slices.Clone(row)
		for i, x := range s.Sets {
			row[columnOf(d.Table, x.Column)] = rows.Rows[0][1+i]
		}
		turned, all = append(turned, row), append(all, row)
	}
	return count, m.leave(d, turned, all)
}

// leave a table with these rows, of which some are new.
func (m *model) leave(d *api.Data, fresh, all [][]api.Value) api.Errno {
	for _, row := range fresh {
		for i, c := range d.Table.Columns {
			if c.NotNull && row[i].Kind == api.Null {
				return api.ErrNull
			}
		}
	}
	for _, row := range fresh {
		for _, c := range d.Table.Checks {
			rows, _ := query.Answer([]api.Data{{Table: d.Table, Rows: [][]api.Value{row}}}, api.Select{Cores: []api.Core{{Items: []api.Item{{Expr: c}}, From: []api.From{{Join: api.Cross, Table: d.Table.Name}}}}, Limit: -1})
			if rows.Rows[0][0] == (api.Value{Kind: api.Bool}) {
				return api.ErrCheck
			}
		}
	}
	for _, row := range fresh {
		if s, e := value.Pack(row); e != api.OK || len(s) > api.MaxValue || slices.ContainsFunc(orders(d.Table, false), func(o []int) bool { return longKey(row, o) }) {
			return api.ErrLarge
		}
	}
	if slices.ContainsFunc(orders(d.Table, true), func(o []int) bool { return repeats(all, o) }) {
		return api.ErrUnique
	}
	d.Rows = all
	return api.OK
}

// orders of a table: the columns of its keys and indexes, of all or just of those that are unique.
func orders(t api.Table, unique bool) [][]int {
	l := slices.Clone(t.Keys)
	for _, x := range t.Indexes {
		if x.Unique || !unique {
			l = append(l, x.Columns)
		}
	}
	return l
}

func some(row []api.Value, columns []int) []api.Value {
	var l []api.Value
	for _, n := range columns {
		l = append(l, row[n])
	}
	return l
}

func longKey(row []api.Value, columns []int) bool { return len(value.Key(some(row, columns))) > 191 }

// repeats: have two rows the same values in these columns, none of them null?
func repeats(rows [][]api.Value, columns []int) bool {
	for i, row := range rows {
		x := some(row, columns)
		if slices.Contains(x, api.Value{}) {
			continue
		}
		if slices.ContainsFunc(rows[:i], func(other []api.Value) bool { return value.Rows(x, some(other, columns)) == 0 }) {
			return true
		}
	}
	return false
}

func (m *model) index(s api.Stmt) api.Errno {
	n, x, _ := bind.Index(m.tables(), s)
	d := &m.data[n]
	if slices.ContainsFunc(d.Rows, func(row []api.Value) bool { return longKey(row, x.Columns) }) {
		return api.ErrLarge
	}
	if x.Unique && repeats(d.Rows, x.Columns) {
		return api.ErrUnique
	}
	d.Table.Indexes = append(slices.Clone(d.Table.Indexes), x)
	return api.OK
}

func rowsOrder(a, b []api.Value) int { return value.Rows(a, b) }
