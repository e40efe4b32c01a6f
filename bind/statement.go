package bind

import (
	"slices"

	"relstore/api"
)

// statement of any kind must mean something.
func (b *binder) statement(s api.Stmt) {
	switch s.Kind {
	case api.Query:
		b.query(nil, s.Query[0])
	case api.Insert:
		b.insert(s)
	case api.Update:
		b.update(s)
	case api.Delete:
		t := b.table(s.Table)
		b.turning(s.Table, b.among(t).truths(s.Where))
	case api.CreateTable:
		b.createTable(s)
	case api.CreateIndex:
		b.createIndex(s)
	case api.DropTable:
		b.table(s.Table)
	case api.DropIndex:
		refuse(!b.hasIndex(s.Name), api.ErrMissing)
	}
}

// tableNumber: the number of the table of this name; -1, if there is none.
func tableNumber(tables []api.Table, name string) int {
	return slices.IndexFunc(tables, func(t api.Table) bool { return t.Name == name })
}

// table of this name, which there must be.
func (b *binder) table(name string) api.Table {
	n := tableNumber(b.tables, name)
	refuse(n < 0, api.ErrMissing)
	return b.tables[n]
}

// hasIndex: has any table an index of this name?
func (b *binder) hasIndex(name string) bool {
	return slices.ContainsFunc(b.tables, func(t api.Table) bool {
		return slices.ContainsFunc(t.Indexes, func(i api.Index) bool { return i.Name == name })
	})
}

// among the columns of a table.
func (b *binder) among(t api.Table) setting {
	s := newScope(nil)
	s.add(t.Name, b.tableList(t.Columns))
	return b.ahead(s)
}

// columnNumbers: which columns these names tell, each of them once.
func columnNumbers(columns []api.ColumnDef, names []string) []int {
	var l []int
	for _, name := range names {
		n := columnNumber(columns, name)
		refuse(n < 0, api.ErrName)
		refuse(slices.Contains(l, n), api.ErrExists)
		l = append(l, n)
	}
	return l
}

// columnNumber: the number of the column of this name; -1, if there is none.
func columnNumber(columns []api.ColumnDef, name string) int {
	return slices.IndexFunc(columns, func(c api.ColumnDef) bool { return c.Name == name })
}

func (b *binder) insert(s api.Stmt) {
	kinds := insertedKinds(b.table(s.Table), s.Names)
	for _, q := range s.Query {
		columns := b.query(nil, q).Columns
		refuse(columns.count != sizeOf(len(kinds)), api.ErrForm)
		b.holdEach(kinds, b.kindsOf(columns).kindsAt(nil, size{}, len(kinds)))
	}
	alone := b.ahead(newScope(nil))
	for _, row := range s.Rows {
		refuse(len(row) != len(kinds), api.ErrForm)
		for i, e := range row {
			alike(kinds[i], alone.term(e).Kind)
		}
	}
}

// insertedKinds: the kinds of the columns that these names tell; of all, if there are no names.
func insertedKinds(t api.Table, names []string) []int {
	var kinds []int
	for _, n := range columnNumbers(t.Columns, names) {
		kinds = append(kinds, t.Columns[n].Kind)
	}
	if len(names) > 0 {
		return kinds
	}
	for _, c := range t.Columns {
		kinds = append(kinds, c.Kind)
	}
	return kinds
}

func (b *binder) update(s api.Stmt) {
	t := b.table(s.Table)
	var names []string
	for _, x := range s.Sets {
		names = append(names, x.Column)
	}
	numbers := columnNumbers(t.Columns, names)
	row := b.among(t)
	for i, x := range s.Sets {
		alike(t.Columns[numbers[i]].Kind, row.term(x.Expr).Kind)
	}
	b.turning(s.Table, row.truths(s.Where))
}

func (b *binder) createIndex(s api.Stmt) {
	refuse(len(s.Name) > api.MaxName, api.ErrLarge)
	refuse(b.hasIndex(s.Name), api.ErrExists)
	columnNumbers(b.table(s.Table).Columns, s.Names)
}
