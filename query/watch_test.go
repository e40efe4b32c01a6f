package query_test

import (
	"math/rand"
	"slices"
	"testing"

	"relstore/api"
	"relstore/query"
	"relstore/value"
)

// watch: a source that notes what it is asked, hands out rows in another order each time, and writes over them when it is asked again.
type watch struct {
	t     testing.TB
	data  []api.Data
	r     *rand.Rand
	alls  []int // how often all rows of each table were asked for
	finds []int // likewise by keys and indexes
	rows  int   // handed out
	calls int
	fail  int       // behind so many calls it fails; below 0: it does not
	with  api.Errno // so
	lent  [][]api.Value
	given []api.Value
}

func newWatch(t testing.TB, data []api.Data) *watch {
	return &watch{t: t, data: data, r: rand.New(rand.NewSource(1)), alls: make([]int, len(data)), finds: make([]int, len(data)), fail: -1}
}

// spoil what was lent and given: it is the source's own.
func (w *watch) spoil() {
	for _, l := range append(w.lent, w.given) {
		for i := range l {
			l[i] = api.Value{Kind: api.Text, N: 77, S: "spoiled"}
		}
	}
	w.lent, w.given = nil, nil
}

// called once more; does it fail?
func (w *watch) called() bool {
	w.spoil()
	if w.fail >= 0 && w.calls > w.fail {
		w.t.Error("something is asked behind an error")
	}
	w.calls++
	return w.fail >= 0 && w.calls > w.fail
}

// out: rows are handed out.
func (w *watch) out(rows [][]api.Value) [][]api.Value {
	var l [][]api.Value
	for _, r := range rows {
		l = append(l, slices.Clone(r))
	}
	w.r.Shuffle(len(l), func(i, j int) { l[i], l[j] = l[j], l[i] })
	w.lent = l
	w.rows += len(l)
	return l
}

func (w *watch) All(table int) ([][]api.Value, api.Errno) {
	if table < 0 || table >= len(w.data) {
		w.t.Errorf("there is no table %d", table)
		return nil, api.ErrArg
	}
	w.alls[table]++
	if w.called() {
		return w.out(w.data[table].Rows), w.with
	}
	return w.out(w.data[table].Rows), api.OK
}

func (w *watch) Find(table, index int, values []api.Value) ([][]api.Value, api.Errno) {
	if table < 0 || table >= len(w.data) || index < 0 || index >= len(indexes(w.data[table].Table)) {
		w.t.Errorf("there is no index %d of table %d", index, table)
		return nil, api.ErrArg
	}
	x := w.data[table].Table
	w.finds[table]++
	failed := w.called()
	columns := indexes(x)[index]
	if len(columns) != len(values) {
		w.t.Errorf("%v by the columns %v", values, columns)
		return nil, api.ErrArg
	}
	for i, c := range columns {
		if values[i].Kind != x.Columns[c].Kind || values[i] != value.Clean(values[i]) {
			w.t.Errorf("%v by the columns %v", values, columns)
		}
	}
	rows := w.out(found(w.data[table].Rows, columns, values))
	w.given = values
	if failed {
		return rows, w.with
	}
	return rows, api.OK
}

// indexes: the columns of the keys and indexes of a table.
func indexes(x api.Table) [][]int {
	l := slices.Clone(x.Keys)
	for _, i := range x.Indexes {
		l = append(l, i.Columns)
	}
	return l
}

// found: the rows with these values.
func found(rows [][]api.Value, columns []int, values []api.Value) [][]api.Value {
	var l [][]api.Value
	for _, r := range rows {
		same := true
		for i, c := range columns {
			same = same && r[c] == values[i] && r[c].Kind != api.Null
		}
		if same {
			l = append(l, r)
		}
	}
	return l
}

// watched: a query over a source that is watched.
func watched(t testing.TB, data []api.Data, q api.Select) (*watch, api.Rows, api.Errno) {
	w := newWatch(t, data)
	r, e := query.Run(tablesOf(data), w, q)
	w.spoil()
	return w, r, e
}
