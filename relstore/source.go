package relstore

import (
	"relstore/api"
	"relstore/query"
)

// shown: tables as a query sees them: a source. One without a name has one more column, also without a name: the rows' numbers. (No statement can speak of it.)
type shown struct {
	*work
	tables []table
}

// All rows of a table.
func (s shown) All(n int) ([][]api.Value, api.Errno) {
	return s.values(n, s.all)
}

// Find rows by a key or an index.
func (s shown) Find(n, index int, values []api.Value) ([][]api.Value, api.Errno) {
	return s.values(n, func(t table) []api.Row { return s.find(t, t.orders[index], values) })
}

// values of the rows of a table that are read.
func (s shown) values(n int, read func(t table) []api.Row) ([][]api.Value, api.Errno) {
	t := s.tables[n]
	numbered := t.Name == ""
	if numbered {
		t.Columns = t.Columns[:len(t.Columns)-1]
	}
	var l [][]api.Value
	e := caught(func() {
		for _, r := range read(t) {
			if numbered {
				r.Values = append(r.Values, number(r.Id))
			}
			l = append(l, r.Values)
		}
	})
	return l, e
}

// answer a query over tables.
func (w *work) answer(tables []table, q api.Select) api.Rows {
	answer, e := query.Run(definitions(tables), shown{w, tables}, q)
	check(e)
	return answer
}

// selected: a query of one core.
func selected(c api.Core) api.Select { return api.Select{Cores: []api.Core{c}, Limit: -1} }

// items: expressions, each of them a column of a query.
func items(l []api.Expr) []api.Item {
	var m []api.Item
	for _, e := range l {
		m = append(m, api.Item{Expr: e})
	}
	return m
}

// meeting: of a table the rows that meet WHERE: their values, their numbers, and what some expressions are of them.
func (w *work) meeting(tables []table, t table, exprs, where []api.Expr) [][]api.Value {
	numbered := t
	numbered.Name = ""
	numbered.Columns = append(t.Columns[:len(t.Columns):len(t.Columns)], api.ColumnDef{Kind: api.Int})
	core := api.Core{
		Items: append([]api.Item{{Star: true}}, items(exprs)...),
		From:  []api.From{{Join: api.Cross, As: t.Name}},
		Where: where,
	}
	return w.answer(append(tables[:len(tables):len(tables)], numbered), selected(core)).Rows
}
