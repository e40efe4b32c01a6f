package query_test

import (
	"math/rand"
	"testing"

	"relstore/api"
	"relstore/bind"
	"relstore/query"
	"relstore/sql"
)

// P19: the first error that a source answers is the answer, and nothing more is asked: whichever call it is that fails.
func TestErrorsOfSource(t *testing.T) {
	data := library(t)
	for _, text := range []string{
		"select * from t", "select * from t where a = 7", "select * from v join t on t.a = v.a", "select * from v left join t on t.a = v.a", "select b, count(*) from t group by b having count(*) > (select max(a) from v)", "select * from t where b in (select a from v)", "select * from t where exists (select 1 from v where v.a = t.b)", "select (select max(c) from u where u.b = v.b) from v", "select a from t union select a from v", "select a from t except select a from v order by 1", "select a from t order by (select max(b) from v) limit 1", "select * from t, (select max(a) from v) x, u", "select count(*) from v where a = (select max(b) from u where c = v.b)", "select case when a > 2 then (select max(a) from v) end from t",
	} {
		q := asked(t, text)
		whole, _, e := watched(t, data, q)
		if e != api.OK || whole.calls < 1 {
			t.Fatal(text, e)
		}
		for n := range whole.calls {
			for _, with := range []api.Errno{api.ErrDown, api.ErrDamage, 99, -1} {
				w := newWatch(t, data)
				w.fail, w.with = n, with
				r, e := query.Run(tablesOf(data), w, q)
				if e != with || len(r.Columns)+len(r.Rows) > 0 || w.calls != n+1 {
					t.Fatalf("%s: call %d fails: %v %v, %d calls", text, n, r, e, w.calls)
				}
			}
		}
	}
}

// P19: errors of many queries' sources.
func TestManyErrorsOfSource(t *testing.T) {
	m := &maker{r: rand.New(rand.NewSource(5))}
	failed := 0
	for i := range 3000 {
		if i%10 == 0 {
			m.newData()
		}
		q := m.top(i % 4)
		whole, _, e := watched(t, m.data, q)
		if e != api.OK || whole.calls == 0 {
			continue
		}
		w := newWatch(t, m.data)
		w.fail, w.with = m.r.Intn(whole.calls), api.ErrDamage
		r, e := query.Run(tablesOf(m.data), w, q)
		if e != api.ErrDamage || len(r.Columns)+len(r.Rows) > 0 || w.calls != w.fail+1 || t.Failed() {
			t.Fatalf("%s: call %d fails: %v %v, %d calls", sql.Print(api.Stmt{Kind: api.Query, Query: []api.Select{q}}), w.fail, r, e, w.calls)
		}
		failed++
	}
	if failed < 1000 {
		t.Errorf("just %d", failed)
	}
}

// P19: the errors of 09 come first: nothing is asked then.
func TestErrorsAheadOfSource(t *testing.T) {
	data := library(t)
	for text, want := range map[string]api.Errno{
		"select zz from t": api.ErrName, "select * from zz": api.ErrMissing, "select a + c from t": api.ErrType, "select a from t where count(*) > 0": api.ErrForm, "select * from t, t": api.ErrExists, "select 1 from t a, t b, t c, t d, t e, t f, t g, t h, t i": api.ErrLarge, "select a from t union select c from t": api.ErrType, "select (select a, b from t)": api.ErrForm, "select a from t order by 2": api.ErrForm,
	} {
		w, r, e := watched(t, data, asked(t, text))
		if e != want || len(r.Columns)+len(r.Rows) > 0 || w.calls > 0 {
			t.Errorf("%s: %v %v, not %v; %d calls", text, r, e, want, w.calls)
		}
		if r, e := query.Answer(data, asked(t, text)); e != want || len(r.Columns)+len(r.Rows) > 0 {
			t.Errorf("%s: Answer: %v %v, not %v", text, r, e, want)
		}
	}
}

// P18: data that cannot be are ErrArg, ahead of all other errors, whatever is asked.
func TestWrongData(t *testing.T) {
	for name, spoil := range map[string]func(d []api.Data){
		"a key without columns":            func(d []api.Data) { d[0].Table.Keys = append(d[0].Table.Keys, nil) },
		"a key with a column below 0":      func(d []api.Data) { d[0].Table.Keys[1] = []int{0, -1} },
		"a key with a column that is none": func(d []api.Data) { d[2].Table.Keys = [][]int{{0}, {1, 2}} },
		"an index without columns":         func(d []api.Data) { d[2].Table.Indexes = []api.Index{{Name: "i"}} },
		"an index with a column below 0":   func(d []api.Data) { d[1].Table.Indexes[0].Columns = []int{-1} },
		"an index with one that is none":   func(d []api.Data) { d[1].Table.Indexes[3].Columns = []int{3} },
		"a short row":                      func(d []api.Data) { d[0].Rows[5] = d[0].Rows[5][:2] },
		"a row of nothing":                 func(d []api.Data) { d[2].Rows = append(d[2].Rows, nil) },
		"a long row":                       func(d []api.Data) { d[1].Rows[0] = append(d[1].Rows[0], api.Value{}) },
		"a text for a number":              func(d []api.Data) { d[0].Rows[3][0] = api.Value{Kind: api.Text, S: "3"} },
		"a truth for a number":             func(d []api.Data) { d[2].Rows[19][1] = api.Value{Kind: api.Bool} },
		"a number for a text":              func(d []api.Data) { d[0].Rows[39][2] = api.Value{Kind: api.Int} },
	} {
		for _, text := range []string{"select 1", "select * from t", "select zz", "select * from zz"} {
			data := library(t)
			spoil(data)
			if r, e := query.Answer(data, asked(t, text)); e != api.ErrArg || len(r.Columns)+len(r.Rows) > 0 {
				t.Errorf("%s: %s: %v %v", name, text, r, e)
			}
		}
	}
	data := library(t)
	data[0].Table.Keys = append(data[0].Table.Keys, []int{2, 2, 1})
	data = append(data, api.Data{})
	if _, e := query.Answer(data, asked(t, "select * from t")); e != api.OK {
		t.Error(e)
	}
}

// P18: values that are not clean count as what they are, and all that come out are clean.
func TestUncleanData(t *testing.T) {
	data := base(t, "create table t (a boolean, b integer, c text)")
	data[0].Rows = [][]api.Value{
		{{Kind: api.Bool, N: 7, S: "x"}, {Kind: api.Int, N: 3, S: "x"}, {Kind: api.Text, N: 9, S: "t"}},
		{{Kind: 9, N: 1, S: "x"}, {Kind: -1, N: 5}, {Kind: 4, S: "t"}},
		{{Kind: api.Null, N: 1, S: "x"}, {Kind: api.Int, N: 3}, {Kind: api.Text, S: "t"}},
	}
	for _, x := range []told{
		{"select a, b, c from t", "null null null, null 3 't', true 3 't'"}, {"select a from t where a", "true"}, {"select a from t where a = true", "true"}, {"select count(*), b, c from t group by b, c", "1 null null, 2 3 't'"}, {"select distinct b, c from t", "null null, 3 't'"}, {"select count(*) from t x join t y on x.b = y.b and x.c = y.c", "4"}, {"select b from t intersect select 3", "3"}, {"select max(a), count(a) from t", "true 1"}, {"select b in (3), a in (select true) from t", "null null, true null, true true"},
	} {
		r, e := query.Answer(data, asked(t, x.text))
		if e != api.OK || shown(r.Rows) != x.want {
			t.Errorf("%s: %s (%v), not %s", x.text, shown(r.Rows), e, x.want)
		}
		for _, row := range r.Rows {
			for _, v := range row {
				if v.Kind < 0 || v.Kind > api.Text || v.Kind == api.Null && v != (api.Value{}) || v.Kind == api.Bool && (v.N > 1 || v.S != "") || v.Kind == api.Int && v.S != "" || v.Kind == api.Text && v.N != 0 {
					t.Errorf("%s: %v is not clean", x.text, v)
				}
			}
		}
	}
	if _, e := bind.Columns(tablesOf(data), asked(t, "select 1")); e != api.OK {
		t.Error(e)
	}
}
