package query

import (
	"relstore/api"
	"relstore/value"
)

// shelf: the rows that were handed out so far. A source hands out the same ones each time, so that none must be asked for twice.
type shelf struct {
	tables []api.Table
	src    api.Source
	whole  map[int]*relation       // tables of which all rows were handed out
	found  map[asked][][]api.Value // by keys and indexes, where there was something
}

// asked: what was asked for by a key or an index.
type asked struct {
	table, index int
	key          string // of the values
}

func newShelf(tables []api.Table, src api.Source) shelf {
	return shelf{tables, src, map[int]*relation{}, map[asked][][]api.Value{}}
}

// all rows of a table.
func (s *shelf) all(table int) *relation {
	if r := s.whole[table]; r != nil {
		return r
	}
	rows, e := s.src.All(table)
	check(e)
	r := newRelation(s.copied(table, rows))
	s.whole[table] = r
	return r
}

// find rows of a table by a key or an index; looked up, if all rows were handed out already.
func (s *shelf) find(table, index int, by lookup, values []api.Value) [][]api.Value {
	if r := s.whole[table]; r != nil {
		return r.with(by, values)
	}
	what := asked{table, index, value.Key(values)}
	if rows, ok := s.found[what]; ok {
		return rows
	}
	rows, e := s.src.Find(table, index, values)
	check(e)
	rows = s.copied(table, rows)
	if len(rows) > 0 {
		s.found[what] = rows
	}
	return rows
}

// copied: rows that a source has handed out, which are its own: it may write over them later.
func (s *shelf) copied(table int, rows [][]api.Value) [][]api.Value {
	width := len(s.tables[table].Columns)
	l := make([][]api.Value, len(rows))
	for i, r := range rows {
		l[i] = make([]api.Value, width)
		for n := range min(width, len(r)) {
			l[i][n] = value.Clean(r[n])
		}
	}
	return l
}
