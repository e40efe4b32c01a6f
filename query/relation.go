package query

import (
	"strconv"

	"relstore/api"
	"relstore/value"
)

// relation: rows, which can be looked up by the values of some columns.
type relation struct {
	rows  [][]api.Value
	keyed map[string]map[string][][]api.Value // of some columns: the rows with each of their keys
}

func newRelation(rows [][]api.Value) *relation {
	return &relation{rows, map[string]map[string][][]api.Value{}}
}

// lookup by the values of some columns.
type lookup struct {
	columns []int
	name    string
}

func lookupBy(columns []int) lookup {
	l := lookup{columns: columns}
	for _, n := range columns {
		l.name += strconv.Itoa(n) + " "
	}
	return l
}

// with these values in the columns of a lookup: the rows.
func (r *relation) with(l lookup, values []api.Value) [][]api.Value {
	if len(l.columns) == 0 {
		return r.rows
	}
	rows, ok := r.keyed[l.name]
	if !ok {
		rows = r.keyedBy(l.columns)
		r.keyed[l.name] = rows
	}
	return rows[value.Key(values)]
}

// keyedBy some columns: the rows with each of their keys.
func (r *relation) keyedBy(columns []int) map[string][][]api.Value {
	rows := map[string][][]api.Value{}
	values := make([]api.Value, len(columns))
	for _, row := range r.rows {
		for i, n := range columns {
			values[i] = row[n]
		}
		key := value.Key(values)
		rows[key] = append(rows[key], row)
	}
	return rows
}

// set of rows.
type set map[string]struct{}

// setOf rows.
func setOf(rows [][]api.Value) set {
	s := set{}
	for _, r := range rows {
		s.add(r)
	}
	return s
}

// add a row; was it not there?
func (s set) add(row []api.Value) bool {
	key := value.Key(row)
	_, there := s[key]
	s[key] = struct{}{}
	return !there
}

// has a row?
func (s set) has(row []api.Value) bool {
	_, there := s[value.Key(row)]
	return there
}
