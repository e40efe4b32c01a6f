package bind

import (
	"slices"

	"relstore/api"
)

func (b *binder) createTable(s api.Stmt) {
	refuse(len(s.Table) > api.MaxName, api.ErrLarge)
	refuse(tableNumber(b.tables, s.Table) >= 0, api.ErrExists)
	refuse(len(s.Columns) == 0, api.ErrForm)
	refuse(len(s.Columns) > api.MaxColumns, api.ErrLarge)
	for i, c := range s.Columns {
		newColumn(s.Columns[:i], c)
	}
	primary := false
	for _, k := range s.Keys {
		columnNumbers(s.Columns, k.Columns)
		refuse(primary && k.Primary, api.ErrForm)
		primary = primary || k.Primary
	}
	row := b.among(api.Table{Name: s.Table, Columns: s.Columns})
	row.queries = false
	row.truths(s.Checks)
}

// newColumn of a table, behind others.
func newColumn(others []api.ColumnDef, c api.ColumnDef) {
	refuse(len(c.Name) > api.MaxName, api.ErrLarge)
	refuse(columnNumber(others, c.Name) >= 0, api.ErrExists)
	for _, v := range c.Default {
		alike(c.Kind, v.Kind)
	}
}

// tableOf a statement that makes one, and means something.
func tableOf(s api.Stmt) api.Table {
	t := api.Table{Name: s.Table, Primary: -1}
	for _, c := range s.Columns {
		c.Default = slices.Concat(c.Default)
		t.Columns = append(t.Columns, c)
	}
	for i, k := range s.Keys {
		numbers := columnNumbers(s.Columns, k.Columns)
		t.Keys = append(t.Keys, numbers)
		if k.Primary {
			t.Primary = i
			notNull(t.Columns, numbers)
		}
	}
	t.Checks = copied(s.Checks)
	return t
}

// notNull: the columns of a primary key.
func notNull(columns []api.ColumnDef, numbers []int) {
	for _, n := range numbers {
		columns[n].NotNull = true
	}
}

// copied: expressions without queries, in memory of their own.
func copied(l []api.Expr) []api.Expr {
	var m []api.Expr
	for _, e := range l {
		e.Args = copied(e.Args)
		e.Sub = nil
		m = append(m, e)
	}
	return m
}
