package bind_test

import (
	"strconv"
	"strings"
	"testing"

	"relstore/api"
	"relstore/bind"
)

// columns: names with their kinds, of which the first letters stand behind a colon (n: null).
func columns(text string) []api.Column {
	var l []api.Column
	for _, s := range strings.Fields(text) {
		name, kind, _ := strings.Cut(s, ":")
		l = append(l, api.Column{Name: name, Kind: strings.Index("nbit", kind)})
	}
	return l
}

// P17: the names and kinds of a core's columns.
func TestColumnsOfCore(t *testing.T) {
	tables := made(t, schema)
	for text, want := range map[string]string{
		"select a from t": "a:i", "select t.c, b from t": "c:t b:i", "select a as q, b p from t": "q:i p:i", `select a as "Q q", d from t`: "", "select A from t": "a:i", `select "H", h from v`: "H:b h:t",
		"select * from t": "a:i b:i c:t d:b", "select t.* from t": "a:i b:i c:t d:b", "select * from u x": "a:i e:t f:b", "select * from u, t": "a:i e:t f:b a:i b:i c:t d:b", "select t.* from u, t": "a:i b:i c:t d:b", "select u.*, * from u, v": "a:i e:t f:b a:i e:t f:b g:i h:t H:b", "select * from v left join u on true": "g:i h:t H:b a:i e:t f:b",
		"select 1": "column1:i", "select null, 'x', true": "column1:n column2:t column3:b", "select a, a + 1, b from t": "a:i column2:i b:i", "select *, 1, * , 'x' from u": "a:i e:t f:b column4:i a:i e:t f:b column8:t", "select 1 as q, 2, 3 as column1, 4": "q:i column2:i column1:i column4:i",
		"select (a), -a, not d, c || c, a = b from t": "a:i column2:i column3:b column4:t column5:b", "select cast(a as text) from t": "column1:t", "select upper(c), upper(c) as upper from t": "column1:t upper:t",
		"select count(*), max(c), min(d), sum(a) as a, avg(b) from t": "column1:i column2:t column3:b a:i column5:i", "select c, count(*) from t group by c": "c:t column2:i",
		"select (select a from t)": "column1:i", "select (select a as q from t), exists (select 1), 1 in (select 2)": "column1:i column2:b column3:b", "select (select c from t) as q": "q:t",
		"select * from (select a, c as q, 1, null from t) x": "a:i q:t column3:i column4:n", "select x.column3, x.* from (select a, c as q, 'x' from t) x": "column3:t a:i q:t column3:t", "select * from (select a, a from t) x": "a:i a:i", "select * from (select * from (select * from u) x) y": "a:i e:t f:b", "select * from (select 1 union select 2) x": "column1:i", "select column1 from (select a + 1 from t) x": "column1:i",
		"select distinct c from t": "c:t", "select c from t order by a limit 1": "c:t", "select a from t where d group by a having true": "a:i",
	} {
		if want == "" {
			expectColumns(t, tables, text, api.Column{Name: "Q q", Kind: api.Int}, api.Column{Name: "d", Kind: api.Bool})
			continue
		}
		expectColumns(t, tables, text, columns(want)...)
	}
}

// P17: a column's number is the one among all columns.
func TestManyColumns(t *testing.T) {
	tables := made(t, schema)
	var want []api.Column
	for i := range 1200 {
		want = append(want, api.Column{Name: "column" + strconv.Itoa(i+1), Kind: api.Int})
	}
	expectColumns(t, tables, "select "+run("1, ", 1199)+"1", want...)
	expectColumns(t, tables, "select * from (select "+run("1, ", 1199)+"1) x", want...)
}

// P17: several cores: as many columns, alike, under the names of the first one.
func TestColumnsOfSeveralCores(t *testing.T) {
	tables := made(t, schema)
	for text, want := range map[string]string{
		"select a from t union select g from v": "a:i", "select g as q, h from v union all select a, e as p from u": "q:i h:t", "select 1 intersect select a from t": "column1:i", "select 1, 2 except select 3 as a, 4 as b": "column1:i column2:i",
		"select null union select 1": "column1:i", "select 1 union select null": "column1:i", "select null union select null": "column1:n", "select null as q union select null union select 'x' union select null": "q:t", "select null, null as n union select 1, null union all select null, true": "column1:i n:b", "select null, 1, null from t except select 'x', null, null from u": "column1:t column2:i column3:n", "select * from u union select 1, null, null": "a:i e:t f:b", "select 1, 'x', true union select * from u": "column1:i column2:t column3:b",
		"select q from (select null as q union select 'x') x": "q:t", "select (select null union select true)": "column1:b",
	} {
		expectColumns(t, tables, text, columns(want)...)
	}
	expectAll(t, []told{
		{"select 1 union select 1, 2", api.ErrForm}, {"select 1, 2 union select 1", api.ErrForm}, {"select * from t union select * from u", api.ErrForm}, {"select * from u union select a, e from u", api.ErrForm}, {"select 1 union select 2 union select 3, 4", api.ErrForm}, {"select 1 union select 2 union all select *  from (select 1) x", api.OK},
		{"select 1 union select 'x'", api.ErrType}, {"select 1 union all select true", api.ErrType}, {"select 1 intersect select 'x'", api.ErrType}, {"select 1 except select 'x'", api.ErrType}, {"select 1, 'x' union select 2, 3", api.ErrType}, {"select null union select 1 union select 'x'", api.ErrType}, {"select null union select null union select 1 union select null union select true", api.ErrType}, {"select null, 1 union select 1, null union select 2, true", api.ErrType}, {"select 1 union select null union select 'x'", api.ErrType},
		// Core by core: each with its errors, then as many columns, then alike.
		{"select zz union select 1 + 'x'", api.ErrName}, {"select 1 union select zz, 1", api.ErrName}, {"select 1 union select 'x' + 1, 1", api.ErrType}, {"select 1 union select 'x', 1", api.ErrForm}, {"select 1 union select 'x' union select zz", api.ErrType}, {"select 1 union select 1, 2 union select zz", api.ErrForm}, {"select 1 union select 2 union select zz union select 'x'", api.ErrName}, {"select 1 union select 'x' union select 1, 2", api.ErrType}, {"select 1 union select 'x' from nn", api.ErrMissing}, {"select 1 from nn union select zz", api.ErrMissing}, {"select 1, zz union select 1", api.ErrName}, {"select 1 union select 'x' order by 2", api.ErrType}, {"select 1 union select 1, 2 order by zz", api.ErrForm},
	})
}

// P17: ORDER BY: by a number, by a name, by an expression.
func TestOrderBy(t *testing.T) {
	expectAll(t, []told{
		{"select a, b from t order by 1", api.OK}, {"select a, b from t order by 2, 1", api.OK}, {"select a, b from t order by 3", api.ErrForm}, {"select a, b from t order by 0", api.ErrForm}, {"select a, b from t order by 9223372036854775807", api.ErrForm}, {"select a, b from t order by 1, 3", api.ErrForm}, {"select * from t order by 4", api.OK}, {"select * from t order by 5", api.ErrForm}, {"select *, t.* from t order by 8 desc, (1)", api.OK}, {"select a from t order by (2)", api.ErrForm}, {"select 1 union select 2 order by 1", api.OK}, {"select 1 union select 2 order by 2", api.ErrForm}, {"select distinct a from t order by 1", api.OK}, {"select distinct a from t order by 2", api.ErrForm}, {"select count(*) from t order by 1", api.OK},
		// Just a number that stands alone is one.
		{"select a from t order by -1", api.OK}, {"select a from t order by 1 + 1", api.OK}, {"select a from t order by '2'", api.OK}, {"select a from t order by null", api.OK}, {"select a from t order by true", api.OK}, {"select a from t order by coalesce(7)", api.OK}, {"select a from t order by 2 + 'x'", api.ErrType}, {"select distinct a from t order by -1", api.ErrForm}, {"select distinct a from t order by null", api.ErrForm}, {"select distinct a from t order by '1'", api.ErrForm}, {"select 1 union select 2 order by 1 + 0", api.ErrForm}, {"select 1 union select 2 order by true", api.ErrForm},
		// Names that columns of the query have; the first one is taken if there are two.
		{"select a from t order by a", api.OK}, {"select a as q from t order by q", api.OK}, {"select a as q, b as q from t order by q", api.OK}, {"select t.a, u.a from t, u order by a", api.OK}, {"select * from t, u order by a", api.OK}, {"select b from t, u order by a", api.ErrName}, {"select 1 from t order by column1", api.OK}, {"select 1 order by column1", api.OK}, {"select 1 order by column2", api.ErrName}, {"select 1 as column2 order by column2, 1", api.OK}, {"select distinct a as q from t order by q", api.OK}, {"select distinct a as q from t order by a", api.ErrForm}, {"select distinct b, a from t order by a, b", api.OK}, {"select a from t union select g from v order by a", api.OK}, {"select a from t union select g from v order by g", api.ErrForm}, {"select a as q from t union select g from v order by q desc, 1", api.OK}, {"select a as q from t union select g from v order by a", api.ErrForm}, {"select e as a from u order by a || 'x'", api.ErrType}, {"select e as a from u order by a", api.OK}, {`select a as "Q" from t order by q`, api.ErrName}, {`select a as "Q" from t order by "Q"`, api.OK}, {"select (select 1 as a) from t, u order by a", api.ErrName},
		// With a table's name, or as a part, it is a column of the sources.
		{"select a from t order by t.a", api.OK}, {"select a from t order by t.b", api.OK}, {"select a as q from t order by t.q", api.ErrName}, {"select a as q from t order by q + 1", api.ErrName}, {"select a as b from t order by b || 'x'", api.ErrType}, {"select c as b from t order by b + 1", api.OK}, {"select distinct a from t order by t.a", api.ErrForm}, {"select distinct a from t order by a + 1", api.ErrForm}, {"select a from t union select a from u order by t.a", api.ErrForm}, {"select a from t union select a from u order by a + 1", api.ErrForm}, {"select a from t x order by t.a", api.ErrName}, {"select a from t x order by x.b, x.c || 'x'", api.OK},
		// Expressions: of the sources, and of what is further out; with errors of their own.
		{"select 1 from t order by b, c || 'x', not d", api.OK}, {"select 1 from t, u order by a", api.ErrName}, {"select 1 from t order by zz", api.ErrName}, {"select 1 from t order by b + c", api.ErrType}, {"select 1 order by b", api.ErrName}, {"select 1 from t order by (select 1 from nn)", api.ErrMissing}, {"select 1 from t order by exists (select 1 from u where u.a = b)", api.OK}, {"select (select 1 from u order by b) from t", api.OK}, {"select (select 1 from u order by zz) from t", api.ErrName}, {"select (select a from u x order by t.c || x.e) from t", api.OK},
		// Where it may not be that comes ahead of its own errors.
		{"select distinct a from t order by zz", api.ErrForm}, {"select distinct a from t order by 1 + 'x'", api.ErrForm}, {"select 1 union select 2 order by zz", api.ErrForm}, {"select 1 union select 2 order by (select 1 from nn)", api.ErrForm}, {"select distinct count(*) from t order by count(*)", api.ErrForm}, {"select distinct 1 union select 2 order by column1", api.OK}, {"select 1 union select distinct 2 order by column1", api.OK},
		// One by one.
		{"select a from t order by 1, zz, 7", api.ErrName}, {"select a from t order by 1, 7, zz", api.ErrForm}, {"select a from t order by b + 'x', zz", api.ErrType}, {"select a from t order by zz, b + 'x'", api.ErrName}, {"select zz from t order by 7", api.ErrName}, {"select 1 from t having zz order by 7", api.ErrName}, {"select 1 from nn order by 7", api.ErrMissing},
		{"select a from t order by 1 limit 0", api.OK}, {"select a from t limit 9223372036854775807 offset 9223372036854775807", api.OK},
	})
}

// P17: Columns tells a query's error.
func TestColumnsTellsErrors(t *testing.T) {
	tables := made(t, schema)
	for text, want := range map[string]api.Errno{"select zz": api.ErrName, "select 1, zz": api.ErrName, "select a, 1 + 'x' from t": api.ErrType, "select a from nn": api.ErrMissing, "select a from t order by 2": api.ErrForm, "select 1 from t, t": api.ErrExists, "select 1 from " + froms(9): api.ErrLarge, "select 1 union select 'x'": api.ErrType} {
		if l, e := bind.Columns(tables, one(t, text).Query[0]); len(l) != 0 || e != want {
			t.Errorf("%s: %v %v, not %v", text, l, e, want)
		}
	}
	if l, e := bind.Columns(nil, one(t, "select 1 as q").Query[0]); e != api.OK || !same(l, columns("q:i")) {
		t.Error(l, e)
	}
	if l, e := bind.Columns(nil, one(t, "select a from t").Query[0]); e != api.ErrMissing || len(l) > 0 {
		t.Error(l, e)
	}
}
