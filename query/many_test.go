package query_test

import (
	"math/rand"
	"testing"

	"relstore/api"
	"relstore/bind"
	"relstore/plain"
	"relstore/query"
	"relstore/sql"
)

// P18, P19: many queries over many data, held against the model.
func TestManyQueries(t *testing.T) {
	count, some := map[api.Errno]int{}, 0
	for seed := range int64(6) {
		m := &maker{r: rand.New(rand.NewSource(seed))}
		for i := range 4000 {
			if i%10 == 0 {
				m.newData()
			}
			q := m.top(i % 4)
			text := sql.Print(api.Stmt{Kind: api.Query, Query: []api.Select{q}})
			if l, e, _ := sql.Parse(text); e != api.OK || !same(l[0].Query[0], q) {
				continue // it is too large, or such as Parse does not give
			}
			rows, e := held(t, m.data, q, text)
			count[e]++
			if rows > 0 {
				some++
			}
			if t.Failed() {
				t.Fatal(m.data)
			}
		}
	}
	if count[api.OK] < 15000 || some < 7000 {
		t.Errorf("just %d that mean something, and %d with rows", count[api.OK], some)
	}
}

// gaveUp: the model did.
const gaveUp api.Errno = -1

// held: a query must be answered as the model does, or as bind says: how many rows it has.
func held(t testing.TB, data []api.Data, q api.Select, text string) (int, api.Errno) {
	t.Helper()
	columns, want := bind.Columns(tablesOf(data), q)
	var rows [][]api.Value
	if want == api.OK {
		m := &model{data: data, left: 200000}
		rows = m.query(nil, q)
		if m.left < 0 {
			return 0, gaveUp
		}
	}
	r, e := query.Answer(data, q)
	if e != want || !same(r, api.Rows{Columns: columns, Rows: rows}) {
		t.Errorf("%s:\n%v %s (%v), not\n%v %s (%v)", text, r.Columns, shown(r.Rows), e, columns, shown(rows), want)
	}
	s, e, read, _ := plain.Run(data, q, -1)
	if e != want || read < 0 || !same(s, r) {
		t.Errorf("%s:\nRun: %v %s (%v; %d), not\n%v %s (%v)", text, s.Columns, shown(s.Rows), e, read, columns, shown(rows), want)
	}
	return len(rows), want
}
