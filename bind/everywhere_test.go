package bind_test

import (
	"cmp"
	"math"
	"math/rand"
	"reflect"
	"slices"
	"strings"
	"testing"

	"relstore/api"
	"relstore/bind"
	"relstore/sql"
)

// all calls, of whatever.
func all(tables []api.Table, s api.Stmt) {
	bind.Check(tables, s)
	bind.Readings(tables, s)
	bind.Define(tables, s)
	bind.Index(tables, s)
	for _, q := range s.Query {
		bind.Columns(tables, q)
	}
}

// P1: whatever a statement lacks, or has too much.
func TestAnswersAnything(t *testing.T) {
	right := made(t, schema)
	odd := []api.Table{{}, {Name: "t", Columns: make([]api.ColumnDef, 2), Keys: [][]int{nil, {-1, 7}}, Primary: 9, Indexes: []api.Index{{}, {Columns: []int{math.MinInt}}}}, {Name: "t"}}
	for kind := -1; kind < 18; kind++ {
		for op := -1; op < 36; op++ {
			for _, form := range []int{0, 1, 2, 3, -1, math.MaxInt} {
				for parts := range 5 {
					e := api.Expr{Op: op, Form: form, Args: make([]api.Expr, parts)}
					for i := range e.Args {
						e.Args[i] = api.Expr{Op: api.Lit, Value: api.Value{Kind: i}}
					}
					l := []api.Expr{{Op: op, Name: "count", Form: form, Sub: []api.Select{{}}, Args: []api.Expr{e}}, e, {Op: op, Name: "coalesce"}}
					q := api.Select{Ops: []int{op}, Order: []api.Order{{Expr: e}}, Cores: []api.Core{{Items: []api.Item{{Expr: e}, {Star: true}}, Group: l, From: []api.From{{Join: op, On: l}, {Sub: make([]api.Select, parts)}}}}}
					for _, tables := range [][]api.Table{nil, right, odd} {
						all(tables, api.Stmt{Kind: kind})
						all(tables, api.Stmt{Kind: kind, Table: "t", Where: l[parts%3:], Checks: l[1:], Names: []string{"", "a"}, Rows: [][]api.Expr{nil, l, l[1:]}, Sets: []api.Set{{Expr: e}, {}}, Query: []api.Select{q}, Columns: make([]api.ColumnDef, 1)})
						all(tables, api.Stmt{Kind: kind, Table: "w", Checks: l[1:], Keys: []api.Key{{}, {Primary: true, Columns: []string{""}}, {Columns: []string{"", ""}}}[:parts%4], Columns: []api.ColumnDef{{Kind: op, Default: make([]api.Value, parts)}}, Query: make([]api.Select, parts)})
						bind.Columns(tables, q)
						q.Cores[0].From = nil
						bind.Columns(tables, q)
					}
				}
			}
		}
	}
	if l, e := bind.Columns(nil, api.Select{}); len(l) > 0 || e == api.OK {
		t.Error(l, e)
	}
}

// P1: statements that are as large, as wide and as deep as they may be.
func TestLargeStatements(t *testing.T) {
	tables := made(t, schema+"; create table w ("+many(32)+")")
	full := func(ahead, piece, behind string) string {
		return ahead + run(piece, (api.MaxSQL-len(ahead)-len(behind))/len(piece)) + behind
	}
	var wide []string
	for _, name := range strings.Split("abcdefgh", "") {
		wide = append(wide, "w "+name)
	}
	for _, x := range []told{
		{full("select 1", ", 1", ""), api.OK}, {full("select *", ",*", " from t"), api.OK}, {full("select *", ",*", " from "+strings.Join(wide, ",")), api.OK}, {full("select a", ",a", " from t group by a order by a"), api.OK}, {full("select 1 from t group by a", ",a", ""), api.OK}, {full("select a from t group by b", ",b", ""), api.ErrForm}, {full("select 1 from t order by a", ",a", ""), api.OK}, {full("select 1", " union select 1", ""), api.OK}, {full("select a in (1", ",1", ") from t"), api.OK}, {full("select coalesce(a", ",a", ") from t"), api.OK}, {full("insert into v (g) values (1)", ",(1)", ""), api.OK},
		{full("select c0", ",c1", " from w group by c0, c1"), api.OK}, {"select " + run("a,", 4000) + "b from t group by " + run("a+1,", 2000) + "a", api.ErrForm}, {"select " + run("a+2,", 2000) + "b from t group by " + run("a+1,", 2000) + "a", api.ErrForm}, {"select " + run("*,", 4000) + "1 from u group by " + run("a,e,f,", 1900) + "1", api.OK},
		{full("select 1 from t where d", " and d", ""), api.ErrLarge}, {"select " + run("abs(", 58) + "a" + run(")", 58) + " from t", api.OK}, {"select " + run("abs(", 58) + "c" + run(")", 58) + " from t", api.ErrType},
		{"select " + run("(select ", 59) + "1" + run(")", 59), api.OK}, {"select " + run("(select ", 59) + "a" + run(" from u)", 59) + " from t", api.OK}, {"select " + run("(select ", 59) + "b" + run(" from u)", 59) + " from t", api.OK}, {"select " + run("(select ", 59) + "zz" + run(" from u)", 59) + " from t", api.ErrName}, {"select " + run("(select max(a)+", 28) + "b" + run(" from u group by a)", 28) + " from t group by b", api.OK}, {"select " + run("(select max(a)+", 28) + "b" + run(" from u group by a)", 28) + " from t group by a", api.ErrForm},
		{run("select * from (", 58) + "select 1" + run(") x", 58), api.OK}, {run("select *, column1 from (", 58) + "select 1" + run(") x", 58), api.ErrName},
		{"select 1 where " + run("exists (select 1 where ", 58) + "true" + run(")", 58), api.OK},
	} {
		s, e, _ := sql.Parse(x.text)
		if e != api.OK {
			if e != x.want {
				t.Errorf("%.80s: %v", x.text, e)
			}
			continue
		}
		if e := bind.Check(tables, s[0]); e != x.want {
			t.Errorf("%.80s: %v, not %v", x.text, e, x.want)
		}
	}
}

// block of memory, the room of a list included.
type block struct{ from, to uintptr }

// blocks of all lists in a value.
func blocks(v reflect.Value) []block {
	var l []block
	switch v.Kind() {
	case reflect.Slice:
		if v.Cap() > 0 {
			l = append(l, block{v.Pointer(), v.Pointer() + uintptr(v.Cap())*v.Type().Elem().Size()})
		}
		for i := range v.Len() {
			l = append(l, blocks(v.Index(i))...)
		}
	case reflect.Struct:
		for i := range v.NumField() {
			l = append(l, blocks(v.Field(i))...)
		}
	}
	return l
}

// spoil all lists in a value, their room included.
func spoil(v reflect.Value) {
	switch v.Kind() {
	case reflect.Slice:
		whole := v.Slice(0, v.Cap())
		for i := range whole.Len() {
			spoil(whole.Index(i))
		}
	case reflect.Struct:
		for i := range v.NumField() {
			spoil(v.Field(i))
		}
	case reflect.String:
		v.SetString("spoiled")
	case reflect.Bool:
		v.SetBool(!v.Bool())
	default:
		v.SetInt(v.Int() ^ 77)
	}
}

// roomy: all lists of a value, those without anything too, get room behind them.
func roomy(v reflect.Value) {
	switch v.Kind() {
	case reflect.Slice:
		for i := range v.Len() {
			roomy(v.Index(i))
		}
		l := reflect.MakeSlice(v.Type(), v.Len(), v.Len()+3)
		reflect.Copy(l, v)
		v.Set(l)
	case reflect.Struct:
		for i := range v.NumField() {
			roomy(v.Field(i))
		}
	}
}

// untouched: is there nothing in the room behind any list of a value?
func untouched(v reflect.Value) bool {
	switch v.Kind() {
	case reflect.Slice:
		for i := range v.Len() {
			if !untouched(v.Index(i)) {
				return false
			}
		}
		room := v.Slice(v.Len(), v.Cap())
		for i := range room.Len() {
			if !room.Index(i).IsZero() {
				return false
			}
		}
	case reflect.Struct:
		for i := range v.NumField() {
			if !untouched(v.Field(i)) {
				return false
			}
		}
	}
	return true
}

// got: what all calls answer.
type got struct {
	check, columnsErr, defineErr, indexErr api.Errno
	columns                                []api.Column
	table                                  api.Table
	number                                 int
	index                                  api.Index
}

func answers(tables []api.Table, s api.Stmt) got {
	var g got
	g.check = bind.Check(tables, s)
	if len(s.Query) > 0 {
		g.columns, g.columnsErr = bind.Columns(tables, s.Query[0])
	}
	g.table, g.defineErr = bind.Define(tables, s)
	g.number, g.index, g.indexErr = bind.Index(tables, s)
	return g
}

// P2: what is handed in is not changed, nor is what comes out a part of it, or of what comes out elsewhere.
func TestMemory(t *testing.T) {
	m := &maker{r: rand.New(rand.NewSource(7)), tables: made(t, schema), wild: 1}
	kinds := map[int]int{}
	for range 3000 {
		s := m.statement(2)
		text := sql.Print(s)
		l, e, _ := sql.Parse(text)
		if e != api.OK {
			continue
		}
		tables, s := made(t, schema), l[0]
		roomy(reflect.ValueOf(&tables).Elem())
		roomy(reflect.ValueOf(&s).Elem())
		first, second := answers(tables, s), answers(tables, s)
		if !same(tables, m.tables) || !same(s, one(t, text)) || !untouched(reflect.ValueOf(tables)) || !untouched(reflect.ValueOf(s)) {
			t.Fatalf("%s: what was handed in is another", text)
		}
		var all []block
		for _, v := range []any{tables, s, first.columns, first.table, first.index, second.columns, second.table, second.index} {
			all = append(all, blocks(reflect.ValueOf(v))...)
		}
		slices.SortFunc(all, func(a, b block) int { return cmp.Compare(a.from, b.from) })
		for i := range all[1:] {
			if all[i].to > all[i+1].from {
				t.Fatalf("%s: two lists share memory", text)
			}
		}
		spoil(reflect.ValueOf(&first.columns).Elem())
		spoil(reflect.ValueOf(&first.table).Elem())
		spoil(reflect.ValueOf(&first.index).Elem())
		third := answers(tables, s)
		spoil(reflect.ValueOf(&tables).Elem())
		spoil(reflect.ValueOf(&s).Elem())
		if !same(second, third) || !same(second, answers(m.tables, one(t, text))) {
			t.Fatalf("%s: what was done later is seen", text)
		}
		if second.check == api.OK {
			kinds[one(t, text).Kind]++
		}
	}
	for kind := api.Query; kind <= api.DropIndex; kind++ {
		if kinds[kind] < 50 {
			t.Errorf("just %d of kind %d", kinds[kind], kind)
		}
	}
}

// P1, P17
func FuzzCheck(f *testing.F) {
	tables := made(f, schema)
	m := &maker{r: rand.New(rand.NewSource(8)), tables: tables, wild: 2}
	for range 300 {
		f.Add(sql.Print(m.statement(2)))
	}
	f.Fuzz(func(t *testing.T, text string) {
		l, _, _ := sql.Parse(text)
		for _, s := range l {
			if strings.Count(text, "*") > 20 {
				bind.Check(tables, s) // it may have more columns than there is room for
				continue
			}
			held(t, tables, s)
		}
	})
}
