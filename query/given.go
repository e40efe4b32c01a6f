package query

import (
	"slices"

	"relstore/api"
	"relstore/value"
)

// unsound: has a table a key, an index or a row that cannot be?
func unsound(d api.Data) bool {
	columns := d.Table.Columns
	wrongKey := func(key []int) bool {
		return len(key) == 0 || slices.ContainsFunc(key, func(n int) bool { return n < 0 || n >= len(columns) })
	}
	wrongIndex := func(i api.Index) bool { return wrongKey(i.Columns) }
	wrongRow := func(row []api.Value) bool { return !fits(row, columns) }
	return slices.ContainsFunc(d.Table.Keys, wrongKey) || slices.ContainsFunc(d.Table.Indexes, wrongIndex) || slices.ContainsFunc(d.Rows, wrongRow)
}

// fits: has a row one value for each column, null or of the column's kind?
func fits(row []api.Value, columns []api.ColumnDef) bool {
	if len(row) != len(columns) {
		return false
	}
	for i, v := range row {
		kind := value.Clean(v).Kind
		if kind != api.Null && kind != columns[i].Kind {
			return false
		}
	}
	return true
}

// tablesOf data, without keys and indexes: all rows are at hand, and nothing has to be found.
func tablesOf(data []api.Data) []api.Table {
	tables := make([]api.Table, len(data))
	for i, d := range data {
		tables[i] = api.Table{Name: d.Table.Name, Columns: d.Table.Columns}
	}
	return tables
}

// given rows: a source.
type given []api.Data

// All rows of a table.
func (g given) All(table int) ([][]api.Value, api.Errno) { return g[table].Rows, api.OK }

// Find nothing: there are no keys and indexes to find it by.
func (g given) Find(table, index int, values []api.Value) ([][]api.Value, api.Errno) {
	return nil, api.ErrMissing
}
