package bind_test

import (
	"strconv"
	"strings"
	"testing"

	"relstore/api"
	"relstore/bind"
)

// many columns of a table.
func many(n int) string {
	var l []string
	for i := range n {
		l = append(l, "c"+strconv.Itoa(i)+" integer")
	}
	return strings.Join(l, ", ")
}

// P17: CreateTable.
func TestCreateTable(t *testing.T) {
	long, longest := run("w", api.MaxName+1), run("w", api.MaxName)
	expectAll(t, []told{
		{"create table w (a integer)", api.OK}, {"create table t (a integer)", api.ErrExists}, {`create table "T" (a integer)`, api.OK}, {"create table i (a integer)", api.OK}, {"create table " + long + " (a integer)", api.ErrLarge}, {"create table " + longest + " (a integer)", api.OK}, {`create table "` + run("é", 31) + `" (a integer)`, api.ErrLarge},
		{"create table w (primary key (a))", api.ErrForm}, {"create table w (unique (a))", api.ErrForm}, {"create table w (check (zz))", api.ErrForm}, {"create table t (check (true))", api.ErrExists}, {"create table w (" + many(api.MaxColumns) + ")", api.OK}, {"create table w (" + many(api.MaxColumns+1) + ")", api.ErrLarge}, {"create table w (" + many(api.MaxColumns+1) + ", c0 integer)", api.ErrLarge}, {"create table w (" + many(api.MaxColumns) + ", c0 integer)", api.ErrLarge}, {"create table w (" + many(api.MaxColumns-1) + ", c0 integer)", api.ErrExists}, {"create table w (" + many(api.MaxColumns) + ", primary key (c0, c31), check (c5 > c31))", api.OK},
		{"create table w (" + long + " integer)", api.ErrLarge}, {"create table w (" + longest + " integer)", api.OK}, {"create table w (a integer, " + long + " integer)", api.ErrLarge}, {"create table w (a integer, a text)", api.ErrExists}, {"create table w (a integer, b text, a integer)", api.ErrExists}, {`create table w (a integer, "A" text)`, api.OK}, {"create table w (w integer)", api.OK},
		{"create table w (a integer default 1)", api.OK}, {"create table w (a integer default -1)", api.OK}, {"create table w (a integer default null)", api.OK}, {"create table w (a integer not null default null)", api.OK}, {"create table w (a integer default 'x')", api.ErrType}, {"create table w (a integer default true)", api.ErrType}, {"create table w (a text default 1)", api.ErrType}, {"create table w (a text default 'x')", api.OK}, {"create table w (a boolean default 'x')", api.ErrType}, {"create table w (a boolean default false, b integer default 'x')", api.ErrType}, {"create table w (a integer default 'x' default 1)", api.OK}, {"create table w (a integer default 1 default 'x')", api.ErrType},
		// Column by column.
		{"create table w (a integer default 'x', a integer)", api.ErrType}, {"create table w (a integer, a integer, " + long + " integer)", api.ErrExists}, {"create table w (a integer, " + long + " integer, a integer)", api.ErrLarge}, {"create table w (a integer, a integer default 'x')", api.ErrExists}, {"create table w (" + long + " integer default 'x')", api.ErrLarge}, {"create table w (" + long + " integer, " + long + " integer)", api.ErrLarge},
		// Keys.
		{"create table w (a integer primary key)", api.OK}, {"create table w (a integer unique, b integer unique unique)", api.OK}, {"create table w (a integer, b text, primary key (b, a), unique (a), unique (a, b), unique (b, a))", api.OK}, {"create table w (a integer, unique (b))", api.ErrName}, {"create table w (a integer, unique (a, b))", api.ErrName}, {"create table w (a integer, unique (a, a))", api.ErrExists}, {"create table w (a integer, primary key (a, a))", api.ErrExists}, {"create table w (a integer, unique (zz, a, a))", api.ErrName}, {"create table w (a integer, unique (a, a, zz))", api.ErrExists}, {"create table w (a integer primary key, b integer primary key)", api.ErrForm}, {"create table w (a integer primary key, primary key (a))", api.ErrForm}, {"create table w (a integer, primary key (a), primary key (a))", api.ErrForm}, {"create table w (a integer primary key primary key)", api.ErrForm}, {"create table w (a integer primary key, unique (a))", api.OK}, {"create table w (a integer, unique (b), b integer)", api.OK}, {`create table w (a integer, unique ("A"))`, api.ErrName},
		{"create table w (a integer, primary key (a), unique (zz), primary key (a))", api.ErrName}, {"create table w (a integer, primary key (a), primary key (a), unique (zz))", api.ErrForm}, {"create table w (a integer, primary key (a), primary key (zz))", api.ErrName}, {"create table w (a integer, primary key (a), primary key (a, a))", api.ErrExists},
		// Checks.
		{"create table w (a integer check (a > 0))", api.OK}, {"create table w (a integer check (w.a > 0))", api.OK}, {"create table w (a integer check (b), b boolean)", api.OK}, {"create table w (a integer, check (a > 0), check (a < 9))", api.OK}, {"create table w (a integer check (a))", api.ErrType}, {"create table w (a integer check (null))", api.OK}, {"create table w (a integer check (zz))", api.ErrName}, {"create table w (a integer check (t.a > 0))", api.ErrName}, {"create table w (b integer check (a > 0))", api.ErrName}, {"create table w (a integer check (a + 'x' > 1))", api.ErrType}, {"create table w (a integer check (nn(a)))", api.ErrName}, {"create table w (a text check (length(a) < 9 and a like 'x%' and upper(a) = a))", api.OK}, {"create table w (a integer check (case when a > 1 then true else false end))", api.OK}, {`create table w (a integer check ("A" > 0))`, api.ErrName},
		{"create table w (a integer check (count(*) > 1))", api.ErrForm}, {"create table w (a integer check (max(a) > 1))", api.ErrForm}, {"create table w (a integer check (max(zz) > 1))", api.ErrForm}, {"create table w (a integer check (a = 1 or sum(a) > 1))", api.ErrForm}, {"create table w (a integer check (zz or sum(a) > 1))", api.ErrName}, {"create table w (a integer check (sum(a) > 1 or zz))", api.ErrForm},
		{"create table w (a integer check (exists (select 1)))", api.ErrForm}, {"create table w (a integer check ((select true)))", api.ErrForm}, {"create table w (a integer check (a in (select a from t)))", api.ErrForm}, {"create table w (a integer check (a in (1, 2)))", api.OK}, {"create table w (a integer check (a > 0 and not exists (select 1 from nn)))", api.ErrForm},
		// A query comes behind the parts, and ahead of what is wrong in it and around it.
		{"create table w (a integer check (zz in (select 1)))", api.ErrName}, {"create table w (a integer check (1 + 'x' in (select 1)))", api.ErrType}, {"create table w (a integer check (a in (select zz)))", api.ErrForm}, {"create table w (a integer check ((select 1 from nn)))", api.ErrForm}, {"create table w (a integer check ((select 1) + 'x'))", api.ErrForm}, {"create table w (a integer check (zz = (select 1)))", api.ErrName}, {"create table w (a integer check ((select 1) = zz))", api.ErrForm}, {"create table w (a integer check (exists (select 1) and 1))", api.ErrForm}, {"create table w (a integer check (coalesce(nn(), exists (select 1))))", api.ErrName}, {"create table w (a integer check (nn((select 1))))", api.ErrForm},
		// One by one.
		{"create table w (a integer, check (a), check (zz))", api.ErrType}, {"create table w (a integer, check (zz), check (a))", api.ErrName}, {"create table w (a integer, check (true), check (1), check (zz))", api.ErrType}, {"create table w (a integer, check (a in (select 1)), check (zz))", api.ErrForm},
	})
	column := func(name string) []told {
		return []told{{long + " text", api.ErrLarge}, {"a text", api.ErrExists}, {name + " text default 1", api.ErrType}}
	}
	firsts(t, "create table {0} (a integer, check ({7}), {2}, {4}, {3} check ({8}), {5}, {6}, check ({9}) {1})",
		piece{"w", []told{{long, api.ErrLarge}, {"t", api.ErrExists}}},
		piece{"", []told{{", " + many(30), api.ErrLarge}}},
		piece{"b text", column("b")},
		piece{"c text", column("c")},
		piece{"unique (a)", []told{{"unique (zz)", api.ErrName}, {"unique (a, a)", api.ErrExists}, {"primary key (a), primary key (a)", api.ErrForm}}},
		piece{"primary key (a)", []told{{"primary key (zz)", api.ErrName}, {"primary key (a, a)", api.ErrExists}}},
		piece{"unique (a)", []told{{"unique (a, zz)", api.ErrName}, {"unique (a, a)", api.ErrExists}, {"primary key (a)", api.ErrForm}}},
		piece{"a > 0", checks()}, piece{"a > 1", checks()}, piece{"a > 2", checks()})
}

// checks that are wrong.
func checks() []told {
	return []told{{"zz", api.ErrName}, {"1 + 'x' > 1", api.ErrType}, {"a", api.ErrType}, {"exists (select 1)", api.ErrForm}, {"count(*) > 1", api.ErrForm}, {"length() > 1", api.ErrForm}}
}

// P17: Define.
func TestDefine(t *testing.T) {
	check := func(text string) []api.Expr { return one(t, "delete from t where "+text).Where }
	for text, want := range map[string]api.Table{
		"create table w (a integer)": {Name: "w", Columns: []api.ColumnDef{{Name: "a", Kind: api.Int}}, Primary: -1},
		`create table "W w" ("A" text not null, b boolean default true, a integer default -5 not null, c text default null)`: {Name: "W w", Columns: []api.ColumnDef{{Name: "A", Kind: api.Text, NotNull: true}, {Name: "b", Kind: api.Bool, Default: []api.Value{{Kind: api.Bool, N: 1}}}, {Name: "a", Kind: api.Int, NotNull: true, Default: []api.Value{{Kind: api.Int, N: -5}}}, {Name: "c", Kind: api.Text, Default: []api.Value{{}}}}, Primary: -1},
		"create table w (a integer primary key, b text)":                                                                     {Name: "w", Columns: []api.ColumnDef{{Name: "a", Kind: api.Int, NotNull: true}, {Name: "b", Kind: api.Text}}, Keys: [][]int{{0}}, Primary: 0},
		"create table w (a integer unique, b text default 'x', c boolean, unique (c, a), primary key (b, a), unique (c))":    {Name: "w", Columns: []api.ColumnDef{{Name: "a", Kind: api.Int, NotNull: true}, {Name: "b", Kind: api.Text, NotNull: true, Default: []api.Value{{Kind: api.Text, S: "x"}}}, {Name: "c", Kind: api.Bool}}, Keys: [][]int{{0}, {2, 0}, {1, 0}, {2}}, Primary: 2},
		"create table w (unique (b), a integer, b integer unique, c integer not null, unique (c, b, a))":                     {Name: "w", Columns: []api.ColumnDef{{Name: "a", Kind: api.Int}, {Name: "b", Kind: api.Int}, {Name: "c", Kind: api.Int, NotNull: true}}, Keys: [][]int{{1}, {1}, {2, 1, 0}}, Primary: -1},
		"create table w (primary key (b), a integer, b integer)":                                                             {Name: "w", Columns: []api.ColumnDef{{Name: "a", Kind: api.Int}, {Name: "b", Kind: api.Int, NotNull: true}}, Keys: [][]int{{1}}, Primary: 0},
		"create table w (a integer check (a + 1 > 0), b text, check (w.b like 'x' or a in (1, 2)))":                          {Name: "w", Columns: []api.ColumnDef{{Name: "a", Kind: api.Int}, {Name: "b", Kind: api.Text}}, Primary: -1, Checks: append(check("a + 1 > 0"), check("w.b like 'x' or a in (1, 2)")...)},
	} {
		for _, tables := range [][]api.Table{nil, made(t, schema)} {
			if x, e := bind.Define(tables, one(t, text)); e != api.OK || !same(x, want) {
				t.Errorf("%s: %+v %v, not %+v", text, x, e, want)
			}
		}
	}
	for text, want := range map[string]api.Errno{"create table t (a integer)": api.ErrExists, "create table w (a integer, a text)": api.ErrExists, "create table w (a integer check (a))": api.ErrType, "create table w (unique (a))": api.ErrForm, "create table w (a integer, primary key (zz))": api.ErrName, "create table w (" + many(33) + ")": api.ErrLarge, "create index j on t (a)": api.ErrArg, "drop table t": api.ErrArg, "select 1": api.ErrArg, "select zz": api.ErrArg, "insert into t values (1)": api.ErrArg, "begin": api.ErrArg, "drop index nn": api.ErrArg} {
		if x, e := bind.Define(made(t, schema), one(t, text)); e != want || !same(x, api.Table{}) {
			t.Errorf("%s: %+v %v, not %v", text, x, e, want)
		}
	}
}

// P17: Index.
func TestIndex(t *testing.T) {
	for _, x := range []struct {
		text  string
		table int
		want  api.Index
	}{
		{"create index j on t (a)", 0, api.Index{Name: "j", Columns: []int{0}}},
		{"create unique index j on t (c, a)", 0, api.Index{Name: "j", Columns: []int{2, 0}, Unique: true}},
		{"create index a on u (f, e, a)", 1, api.Index{Name: "a", Columns: []int{2, 1, 0}}},
		{`create unique index "J j" on v ("H")`, 2, api.Index{Name: "J j", Columns: []int{2}, Unique: true}},
		{"create index t on v (h)", 2, api.Index{Name: "t", Columns: []int{1}}},
	} {
		if n, i, e := bind.Index(made(t, schema), one(t, x.text)); n != x.table || e != api.OK || !same(i, x.want) {
			t.Errorf("%s: %d %+v %v, not %d %+v", x.text, n, i, e, x.table, x.want)
		}
	}
	for text, want := range map[string]api.Errno{"create index i on v (g)": api.ErrExists, "create index j on v (a)": api.ErrName, "create index j on v (g, g)": api.ErrExists, "create index j on nn (g)": api.ErrMissing, "create index " + run("j", 61) + " on v (g)": api.ErrLarge, "create table w (a integer)": api.ErrArg, "create table t (a integer)": api.ErrArg, "drop index i": api.ErrArg, "select zz": api.ErrArg, "commit": api.ErrArg} {
		if n, i, e := bind.Index(made(t, schema), one(t, text)); n != 0 || e != want || !same(i, api.Index{}) {
			t.Errorf("%s: %d %+v %v, not %v", text, n, i, e, want)
		}
	}
}
