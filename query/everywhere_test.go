package query_test

import (
	"cmp"
	"math"
	"math/rand"
	"reflect"
	"slices"
	"strconv"
	"testing"

	"relstore/api"
	"relstore/query"
	"relstore/sql"
)

// odd: a source that answers whatever comes, or panics.
type odd struct{ rows [][]api.Value }

func (o odd) All(table int) ([][]api.Value, api.Errno) {
	if o.rows == nil {
		panic("no rows")
	}
	return o.rows, api.OK
}

func (o odd) Find(table, index int, values []api.Value) ([][]api.Value, api.Errno) {
	return o.All(table)
}

// P1: whatever a query, a table or a source lacks, or has too much.
func TestAnswersAnything(t *testing.T) {
	right := library(t)
	sources := []api.Source{nil, odd{}, odd{[][]api.Value{}}, odd{[][]api.Value{nil, {}, {{Kind: 9, N: 1}}, make([]api.Value, 99)}}, newWatch(t, right)}
	strange := []api.Table{{}, {Name: "t", Columns: make([]api.ColumnDef, 2), Keys: [][]int{nil, {-1, 7}, {0}}, Primary: 9, Indexes: []api.Index{{}, {Columns: []int{math.MinInt}}, {Columns: []int{0, 0, 1}}}}, {Name: "t"}}
	for op := -1; op < 36; op++ {
		for _, form := range []int{0, 1, 2, 3, -1, math.MaxInt} {
			for parts := range 5 {
				e := api.Expr{Op: op, Form: form, Args: make([]api.Expr, parts)}
				for i := range e.Args {
					e.Args[i] = api.Expr{Op: api.Lit, Value: api.Value{Kind: i}}
				}
				l := []api.Expr{{Op: op, Name: "count", Form: form, Sub: []api.Select{{}}, Args: []api.Expr{e}}, e, {Op: op, Name: "coalesce"}, {Op: op, Name: "a", Args: []api.Expr{e, {Op: api.Col, Name: "a"}}}}
				c := api.Core{Items: []api.Item{{Expr: e}, {Star: true}}, Group: l[parts%4 : parts%4], From: []api.From{{Join: op, Table: "t", On: l[1:2]}, {Join: form, Table: "t", As: "x"}}, Where: l[3:]}
				for _, q := range []api.Select{{}, {Cores: []api.Core{c}, Ops: []int{op}}, {Cores: []api.Core{c, c}, Limit: -5, Offset: -5}, {Cores: []api.Core{{Items: []api.Item{{Expr: e}}}}, Limit: math.MaxInt64, Offset: math.MaxInt64, Order: []api.Order{{Expr: e}}}, {Cores: []api.Core{{Items: []api.Item{{Expr: e}}, From: c.From[:1]}}, Limit: 1}} {
					query.Answer(nil, q)
					query.Answer(right, q)
					for _, src := range sources {
						query.Run(strange, src, q)
						query.Run(tablesOf(right), src, q)
					}
				}
			}
		}
	}
}

// P1: a source that is none, that panics or hands out what it may not.
func TestOddSources(t *testing.T) {
	tables := tablesOf(library(t))
	for _, text := range []string{"select * from t", "select * from t where a = 7", "select * from v left join t on t.a = v.a", "select max(a) from t group by b", "select (select max(a) from t)"} {
		for _, src := range []api.Source{nil, odd{}, (*watch)(nil)} {
			if r, e := query.Run(tables, src, asked(t, text)); e == api.OK || len(r.Columns)+len(r.Rows) > 0 {
				t.Errorf("%s: %v %v", text, r, e)
			}
		}
		if _, e := query.Run(tables, odd{[][]api.Value{nil, {{Kind: api.Text}}, make([]api.Value, 99)}}, asked(t, text)); e != api.OK {
			t.Errorf("%s: %v", text, e)
		}
	}
	if r, e := query.Run(nil, nil, asked(t, "select 1")); e != api.OK || shown(r.Rows) != "1" {
		t.Error(r, e)
	}
}

// P1: queries that are as large, as wide and as deep as they may be.
func TestLargeQueries(t *testing.T) {
	data := library(t)
	full := func(ahead, piece, behind string) string {
		return ahead + run(piece, (api.MaxSQL-len(ahead)-len(behind))/len(piece)) + behind
	}
	for _, text := range []string{
		full("select 1", ", 1", ""), full("select *", ",*", " from t"), full("select a", ",a", " from t group by a order by a"), full("select 1 from t group by a", ",a", ""), full("select 1 from t order by a", ",a", ""), full("select 1", " union select 1", ""), full("select a from t", " union all select a from t", ""), full("select a in (1", ",1", ") from t"), full("select coalesce(null", ",null", ") from t"), full("select 1", ", count(*)", " from t"),
		"select " + run("abs(", 58) + "a" + run(")", 58) + " from t", "select " + run("(select ", 59) + "1" + run(")", 59), "select " + run("(select ", 59) + "a" + run(" from u)", 59) + " from t", "select " + run("(select max(a)+", 28) + "t.b" + run(" from u group by a)", 28) + " from t group by b", "select 1 where " + run("exists (select 1 from t where ", 57) + "true" + run(")", 57),
		run("select * from (", 58) + "select a from t" + run(") x", 58), run("select x.* from (", 58) + "select a from t" + run(") x, (select 1) y", 58),
		// Each query within speaks of the one around it.
		"select count(*) from t t0 where " + deepExists(28, "t0"),
	} {
		q := asked(t, text)
		r, e := query.Answer(data, q)
		w, s, f := watched(t, data, q)
		if e != api.OK || f != api.OK || !same(r, s) || w.alls[0] > 700 {
			t.Errorf("%.80s: %v, %v", text, e, f)
		}
	}
}

// deepExists: queries in queries, of which each one has many rows, and speaks of a row of the next one further out.
func deepExists(deep int, outer string) string {
	if deep == 0 {
		return "false"
	}
	name := "t" + strconv.Itoa(deep)
	return "exists (select 1 from t " + name + " where " + name + ".b <> " + outer + ".b and " + deepExists(deep-1, name) + ")"
}

// P18: queries whose stars give more columns than there is memory for, where not all of them are asked for; and those where there is.
func TestWideQueries(t *testing.T) {
	data := base(t, "create table t (a integer, b text); insert into t values (2, 'x'), (1, null), (2, 'x')")
	wide := func(deep int) string {
		return run("select *, * from (", deep) + "select a, b from t" + run(") x", deep)
	}
	expectAll(t, data, []told{
		{wide(1), "1 null 1 null, 2 'x' 2 'x', 2 'x' 2 'x'"}, {"select count(*) from (" + wide(50) + ") y", "3"}, {"select exists (" + wide(50) + ")", "true"}, {"select 1 from (" + wide(50) + ") y limit 1", "1"}, {"select count(*) from (select distinct * from (" + wide(50) + ") y) z", "2"}, {"select count(*) from (" + wide(50) + " union " + wide(50) + ") y", "2"}, {"select count(*) from (" + wide(50) + " except " + wide(50) + ") y", "0"}, {"select count(*) from (" + wide(50) + " intersect " + wide(50) + ") y", "2"}, {"select q, z from (select 'z' as z, * from (select *, y.a + 1 as q from (" + wide(20) + ") x, (select max(a) as a from t) y where false) w union select 'y', * from (select *, 7 from (" + wide(20) + ") x, (select max(a) as a from t) y) w) v", "7 'y', 7 'y'"}, {"select c from (select *, 7 as c from (" + wide(50) + ") y order by 4 desc, 1) z", "7, 7, 7"},
	})
	for _, deep := range []int{3, 12, 20} {
		r, e := query.Answer(data, asked(t, wide(deep)))
		if e != api.OK || len(r.Columns) != 2<<deep || len(r.Rows) != 3 {
			t.Fatal(deep, len(r.Columns), len(r.Rows), e)
		}
		for i, row := range r.Rows {
			if len(row) != 2<<deep {
				t.Fatal(deep, i, len(row))
			}
			for n, v := range row {
				if want := [][2]api.Value{{{Kind: api.Int, N: 1}, {}}, {{Kind: api.Int, N: 2}, {Kind: api.Text, S: "x"}}}[min(i, 1)][n%2]; v != want {
					t.Fatal(deep, i, n, v)
				}
			}
		}
	}
	w, r, e := watched(t, data, asked(t, wide(50)))
	if e != api.ErrLarge || len(r.Columns)+len(r.Rows) > 0 || w.calls > 0 {
		t.Error(e, w.calls)
	}
	// Its columns could be written out, but not so many rows of them.
	for range 2000 {
		data[0].Rows = append(data[0].Rows, []api.Value{{}, {}})
	}
	if r, e := query.Answer(data, asked(t, wide(16))); e != api.ErrLarge || len(r.Columns)+len(r.Rows) > 0 {
		t.Error(e)
	}
}

// block of memory, the room of a list included.
type block struct{ from, to uintptr }

// blocks of all lists in a value.
func blocks(v reflect.Value) []block {
	var l []block
	switch v.Kind() {
	case reflect.Slice:
		if v.Cap() > 0 {
			l = append(l, block{v.Pointer(), v.Pointer() + uintptr(v.Cap())*v.Type().Elem().Size()})
		}
		for i := range v.Len() {
			l = append(l, blocks(v.Index(i))...)
		}
	case reflect.Struct:
		for i := range v.NumField() {
			l = append(l, blocks(v.Field(i))...)
		}
	}
	return l
}

// spoil all lists in a value, their room included.
func spoil(v reflect.Value) {
	switch v.Kind() {
	case reflect.Slice:
		whole := v.Slice(0, v.Cap())
		for i := range whole.Len() {
			spoil(whole.Index(i))
		}
	case reflect.Struct:
		for i := range v.NumField() {
			spoil(v.Field(i))
		}
	case reflect.String:
		v.SetString("spoiled")
	case reflect.Bool:
		v.SetBool(!v.Bool())
	default:
		v.SetInt(v.Int() ^ 77)
	}
}

// roomy: a value of the same lists, those without anything too, with room behind them.
func roomy(v reflect.Value) {
	switch v.Kind() {
	case reflect.Slice:
		l := reflect.MakeSlice(v.Type(), v.Len(), v.Len()+3)
		reflect.Copy(l, v)
		v.Set(l)
		for i := range v.Len() {
			roomy(v.Index(i))
		}
	case reflect.Struct:
		for i := range v.NumField() {
			roomy(v.Field(i))
		}
	}
}

// untouched: is there nothing in the room behind any list of a value?
func untouched(v reflect.Value) bool {
	switch v.Kind() {
	case reflect.Slice:
		for i := range v.Len() {
			if !untouched(v.Index(i)) {
				return false
			}
		}
		room := v.Slice(v.Len(), v.Cap())
		for i := range room.Len() {
			if !room.Index(i).IsZero() {
				return false
			}
		}
	case reflect.Struct:
		for i := range v.NumField() {
			if !untouched(v.Field(i)) {
				return false
			}
		}
	}
	return true
}

// apart: do no two lists share memory?
func apart(values ...any) bool {
	var all []block
	for _, v := range values {
		all = append(all, blocks(reflect.ValueOf(v))...)
	}
	slices.SortFunc(all, func(a, b block) int { return cmp.Compare(a.from, b.from) })
	for i := 1; i < len(all); i++ {
		if all[i-1].to > all[i].from {
			return false
		}
	}
	return true
}

// lender: a source that hands out its own rows.
type lender struct{ data []api.Data }

func (l lender) All(table int) ([][]api.Value, api.Errno) { return l.data[table].Rows, api.OK }

func (l lender) Find(table, index int, values []api.Value) ([][]api.Value, api.Errno) {
	return found(l.data[table].Rows, indexes(l.data[table].Table)[index], values), api.OK
}

// P2: what is handed in is not changed, nor is what comes out a part of it, or of what comes out elsewhere.
func TestMemory(t *testing.T) {
	m := &maker{r: rand.New(rand.NewSource(9))}
	answered := 0
	for i := range 3000 {
		if i%10 == 0 {
			m.newData()
		}
		q := m.top(i % 3)
		text := sql.Print(api.Stmt{Kind: api.Query, Query: []api.Select{q}})
		l, e, _ := sql.Parse(text)
		if e != api.OK {
			continue
		}
		given, data := l[0].Query[0], slices.Clone(m.data)
		roomy(reflect.ValueOf(&given).Elem())
		roomy(reflect.ValueOf(&data).Elem())
		tables := tablesOf(data)
		first, e := query.Answer(data, given)
		second, _ := query.Answer(data, given)
		third, f := query.Run(tables, lender{data}, given)
		if e != f || !same(data, m.data) || !same(given, asked(t, text)) || !untouched(reflect.ValueOf(data)) || !untouched(reflect.ValueOf(given)) {
			t.Fatalf("%s: what was handed in is another", text)
		}
		if !apart(data, given, first, second, third) {
			t.Fatalf("%s: two lists share memory", text)
		}
		spoil(reflect.ValueOf(&first).Elem())
		spoil(reflect.ValueOf(&third).Elem())
		fourth, _ := query.Answer(data, given)
		spoil(reflect.ValueOf(&data).Elem())
		spoil(reflect.ValueOf(&given).Elem())
		fifth, _ := query.Answer(m.data, asked(t, text))
		if !same(second, fourth) || !same(second, fifth) {
			t.Fatalf("%s: what was done later is seen", text)
		}
		if len(second.Rows) > 0 {
			answered++
		}
	}
	if answered < 800 {
		t.Errorf("just %d", answered)
	}
}

// P1, P18, P19
func FuzzQuery(f *testing.F) {
	m := &maker{r: rand.New(rand.NewSource(8))}
	for i := range 200 {
		m.newData()
		f.Add(int64(i), sql.Print(api.Stmt{Kind: api.Query, Query: []api.Select{m.top(2)}}))
	}
	f.Fuzz(func(t *testing.T, seed int64, text string) {
		m := &maker{r: rand.New(rand.NewSource(seed))}
		m.newData()
		l, _, _ := sql.Parse(text)
		for _, s := range l {
			if s.Kind == api.Query && len(text) < 300 {
				held(t, m.data, s.Query[0], text)
			}
		}
	})
}
