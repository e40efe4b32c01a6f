package bind_test

import (
	"reflect"
	"strconv"
	"strings"
	"testing"

	"relstore/api"
	"relstore/bind"
	"relstore/sql"
)

// schema: t and u have a column of the same name; of each kind there is a column that has its name alone.
const schema = `create table t (a integer primary key, b integer, c text, d boolean);
create table u (a integer, e text not null default 'x', f boolean, unique (e, a));
create table v (g integer, h text, "H" boolean);
create index i on u (a); create unique index "I" on v (g, h)`

func run(s string, n int) string { return strings.Repeat(s, n) }

// parsed: the statements of a text that must have some.
func parsed(t testing.TB, text string) []api.Stmt {
	t.Helper()
	l, e, at := sql.Parse(text)
	if e != api.OK {
		t.Fatalf("%s: %v at %d", text, e, at)
	}
	return l
}

// one: the only statement of a text.
func one(t testing.TB, text string) api.Stmt {
	t.Helper()
	l := parsed(t, text)
	if len(l) != 1 {
		t.Fatalf("%s: %d statements", text, len(l))
	}
	return l[0]
}

// made: the tables that a text makes.
func made(t testing.TB, text string) []api.Table {
	t.Helper()
	var tables []api.Table
	for _, s := range parsed(t, text) {
		if s.Kind == api.CreateTable {
			n, e := bind.Define(tables, s)
			if e != api.OK {
				t.Fatalf("%s: %v", sql.Print(s), e)
			}
			tables = append(tables, n)
			continue
		}
		n, x, e := bind.Index(tables, s)
		if e != api.OK {
			t.Fatalf("%s: %v", sql.Print(s), e)
		}
		tables[n].Indexes = append(tables[n].Indexes, x)
	}
	return tables
}

// answered: Check's answer, which must be that of the other calls that tell Check's errors, with nothing beside an error.
func answered(t testing.TB, tables []api.Table, s api.Stmt) api.Errno {
	t.Helper()
	want := bind.Check(tables, s)
	if s.Kind == api.Query {
		if l, e := bind.Columns(tables, s.Query[0]); e != want || e != api.OK && len(l) > 0 {
			t.Errorf("%s: Check %v, Columns %v %v", sql.Print(s), want, l, e)
		}
	}
	x, e := bind.Define(tables, s)
	if s.Kind != api.CreateTable && e != api.ErrArg || s.Kind == api.CreateTable && e != want || e != api.OK && !same(x, api.Table{}) {
		t.Errorf("%s: Check %v, Define %v %v", sql.Print(s), want, x, e)
	}
	n, y, e := bind.Index(tables, s)
	if s.Kind != api.CreateIndex && e != api.ErrArg || s.Kind == api.CreateIndex && e != want || e != api.OK && (n != 0 || !same(y, api.Index{})) {
		t.Errorf("%s: Check %v, Index %v %v %v", sql.Print(s), want, n, y, e)
	}
	return want
}

// expect an answer of a statement.
func expect(t testing.TB, tables []api.Table, text string, want api.Errno) {
	t.Helper()
	if e := answered(t, tables, one(t, text)); e != want {
		t.Errorf("%s: %v, not %v", text, e, want)
	}
}

// told: a text, and what Check must answer.
type told struct {
	text string
	want api.Errno
}

func expectAll(t testing.TB, l []told) {
	t.Helper()
	tables := made(t, schema)
	for _, x := range l {
		expect(t, tables, x.text, x.want)
	}
}

// expectColumns of a query.
func expectColumns(t testing.TB, tables []api.Table, text string, want ...api.Column) {
	t.Helper()
	l, e := bind.Columns(tables, one(t, text).Query[0])
	if e != api.OK || !same(l, want) {
		t.Errorf("%s: %v %v, not %v", text, l, e, want)
	}
}

// fill the places $ of a form, one behind the other.
func fill(form string, parts ...string) string {
	for _, p := range parts {
		form = strings.Replace(form, "$", p, 1)
	}
	return form
}

// piece of a statement: right, or wrong in several ways.
type piece struct {
	right string
	wrong []told
}

// wrongs: expressions that are wrong wherever they stand (but in a CHECK), in several ways.
func wrongs() []told {
	return []told{{"zz", api.ErrName}, {"(1 + 'x')", api.ErrType}, {"length()", api.ErrForm}, {"(select 1 from nn)", api.ErrMissing}, {"(select 1 from t, t)", api.ErrExists}}
}

// firsts: a form with pieces, {0}, {1} and so on in the order in which they are looked at. Of any two wrong ones the first one's error must be told.
func firsts(t *testing.T, form string, pieces ...piece) {
	t.Helper()
	tables := made(t, schema)
	with := func(i int, x string, j int, y string) string {
		text := form
		for n, p := range pieces {
			word := p.right
			switch n {
			case i:
				word = x
			case j:
				word = y
			}
			text = strings.ReplaceAll(text, "{"+strconv.Itoa(n)+"}", word)
		}
		return text
	}
	expect(t, tables, with(-1, "", -1, ""), api.OK)
	for i, p := range pieces {
		for _, x := range p.wrong {
			expect(t, tables, with(i, x.text, -1, ""), x.want)
			for j := i + 1; j < len(pieces); j++ {
				for _, y := range pieces[j].wrong {
					expect(t, tables, with(i, x.text, j, y.text), x.want)
				}
			}
		}
	}
}

// same: lists that have nothing in them may be nil or empty.
func same(a, b any) bool { return alike(reflect.ValueOf(a), reflect.ValueOf(b)) }

func alike(a, b reflect.Value) bool {
	switch a.Kind() {
	case reflect.Slice:
		if a.Len() != b.Len() {
			return false
		}
		for i := range a.Len() {
			if !alike(a.Index(i), b.Index(i)) {
				return false
			}
		}
		return true
	case reflect.Struct:
		for i := range a.NumField() {
			if !alike(a.Field(i), b.Field(i)) {
				return false
			}
		}
		return true
	}
	return a.Equal(b)
}
