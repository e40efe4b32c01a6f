package query_test

import (
	"reflect"
	"strings"
	"testing"

	"relstore/api"
	"relstore/bind"
	"relstore/plain"
	"relstore/query"
	"relstore/sql"
)

func run(s string, n int) string { return strings.Repeat(s, n) }

// parsed: the statements of a text that must have some.
func parsed(t testing.TB, text string) []api.Stmt {
	t.Helper()
	l, e, at := sql.Parse(text)
	if e != api.OK {
		t.Fatalf("%s: %v at %d", text, e, at)
	}
	return l
}

// asked: the query that a text is.
func asked(t testing.TB, text string) api.Select {
	t.Helper()
	l := parsed(t, text)
	if len(l) != 1 || l[0].Kind != api.Query {
		t.Fatalf("%s: no query", text)
	}
	return l[0].Query[0]
}

// literal: the value of an expression of an INSERT, which may have a minus ahead.
func literal(e api.Expr) api.Value {
	if e.Op == api.Neg {
		v := literal(e.Args[0])
		v.N = -v.N
		return v
	}
	return e.Value
}

// base: tables with the rows that a text makes.
func base(t testing.TB, text string) []api.Data {
	t.Helper()
	var data []api.Data
	var tables []api.Table
	for _, s := range parsed(t, text) {
		switch s.Kind {
		case api.CreateTable:
			x, e := bind.Define(tables, s)
			if e != api.OK {
				t.Fatal(sql.Print(s), e)
			}
			tables, data = append(tables, x), append(data, api.Data{Table: x})
		case api.CreateIndex:
			n, x, e := bind.Index(tables, s)
			if e != api.OK {
				t.Fatal(sql.Print(s), e)
			}
			tables[n].Indexes = append(tables[n].Indexes, x)
			data[n].Table = tables[n]
		case api.Insert:
			for n := range data {
				for _, r := range s.Rows {
					var row []api.Value
					for _, e := range r {
						row = append(row, literal(e))
					}
					if tables[n].Name == s.Table {
						data[n].Rows = append(data[n].Rows, row)
					}
				}
			}
		}
	}
	return data
}

func tablesOf(data []api.Data) []api.Table {
	var tables []api.Table
	for _, d := range data {
		tables = append(tables, d.Table)
	}
	return tables
}

// bare: the same data without keys and indexes.
func bare(data []api.Data) []api.Data {
	var l []api.Data
	for _, d := range data {
		d.Table.Keys, d.Table.Indexes = nil, nil
		l = append(l, d)
	}
	return l
}

// told: a query, and its rows as a text.
type told struct{ text, want string }

// expect rows of a query: of Answer and of Run, with and without keys and indexes.
func expect(t testing.TB, data []api.Data, text, want string) {
	t.Helper()
	q := asked(t, text)
	r, e := query.Answer(data, q)
	if got := shown(r.Rows); e != api.OK || got != want {
		t.Errorf("%s:\n%s (%v), not\n%s", text, got, e, want)
	}
	for _, d := range [][]api.Data{data, bare(data)} {
		s, e, read, _ := plain.Run(d, q, -1)
		if e != api.OK || read < 0 || !same(s, r) {
			t.Errorf("%s: Run: %s (%v, %d), not %s", text, shown(s.Rows), e, read, want)
		}
	}
}

func expectAll(t testing.TB, data []api.Data, l []told) {
	t.Helper()
	for _, x := range l {
		expect(t, data, x.text, x.want)
	}
}

// same: lists that have nothing in them may be nil or empty.
func same(a, b any) bool { return alike(reflect.ValueOf(a), reflect.ValueOf(b)) }

func alike(a, b reflect.Value) bool {
	switch a.Kind() {
	case reflect.Slice:
		if a.Len() != b.Len() {
			return false
		}
		for i := range a.Len() {
			if !alike(a.Index(i), b.Index(i)) {
				return false
			}
		}
		return true
	case reflect.Struct:
		for i := range a.NumField() {
			if !alike(a.Field(i), b.Field(i)) {
				return false
			}
		}
		return true
	}
	return a.Equal(b)
}
