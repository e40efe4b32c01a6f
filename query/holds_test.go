package query_test

import (
	"math/rand"
	"slices"
	"testing"

	"relstore/api"
	"relstore/bind"
	"relstore/query"
)

func hasQuery(e api.Expr) bool { return len(e.Sub) > 0 || slices.ContainsFunc(e.Args, hasQuery) }

// Holds says of each row what WHERE does.
func TestHolds(t *testing.T) {
	m := &maker{r: rand.New(rand.NewSource(3))}
	met, missed := 0, 0
	for range 3000 {
		m.newData()
		d := m.data[m.r.Intn(len(m.data))]
		s := &stage{}
		for _, c := range d.Table.Columns {
			s.columns, s.kinds = append(s.columns, api.Expr{Op: api.Col, Name: c.Name}), append(s.kinds, c.Kind)
		}
		m.stages = []*stage{s}
		where := m.expr(api.Bool, 4)
		m.stages = nil
		q := api.Select{Cores: []api.Core{{Items: []api.Item{{Star: true}}, From: []api.From{{Join: api.Cross, Table: d.Table.Name}}, Where: []api.Expr{where}}}, Limit: -1}
		l, e := bind.Readings([]api.Table{d.Table}, api.Stmt{Kind: api.Query, Query: []api.Select{q}})
		if e != api.OK || hasQuery(where) {
			continue
		}
		for _, row := range d.Rows {
			r, _ := query.Answer([]api.Data{{Table: d.Table, Rows: [][]api.Value{row}}}, q)
			if holds := query.Holds(l[0].Where, row); holds != (len(r.Rows) == 1) {
				t.Fatalf("%+v of %v: %v", where, row, holds)
			} else if holds {
				met++
			} else {
				missed++
			}
		}
	}
	if met < 500 || missed < 500 {
		t.Errorf("met %d times, and %d times not", met, missed)
	}
}

// Rows that no reading of a query tells do not matter to its answer.
func TestJustReadingsMatter(t *testing.T) {
	m := &maker{r: rand.New(rand.NewSource(4))}
	fewer := 0
	for range 6000 {
		m.newData()
		q := m.top(3)
		tables := tablesOf(m.data)
		l, e := bind.Readings(tables, api.Stmt{Kind: api.Query, Query: []api.Select{q}})
		if e != api.OK {
			continue
		}
		want, e := query.Answer(m.data, q)
		if e != api.OK {
			t.Fatal(e)
		}
		var some []api.Data
		for n, d := range m.data {
			rows := slices.DeleteFunc(slices.Clone(d.Rows), func(row []api.Value) bool {
				return !slices.ContainsFunc(l, func(r bind.Reading) bool { return r.Table == n && query.Holds(r.Where, row) })
			})
			if len(rows) < len(d.Rows) && slices.ContainsFunc(l, func(r bind.Reading) bool { return r.Table == n }) {
				fewer++
			}
			some = append(some, api.Data{Table: d.Table, Rows: rows})
		}
		got, e := query.Answer(some, q)
		if e != api.OK || !same(got, want) {
			t.Fatalf("%+v: %v, not %v", q, got, want)
		}
	}
	if fewer < 500 {
		t.Errorf("just %d tables had rows that were not read", fewer)
	}
}
