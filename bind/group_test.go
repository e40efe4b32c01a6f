package bind_test

import (
	"strings"
	"testing"

	"relstore/api"
)

// P17: which cores are grouped: in one that is, a column that is not grouped by may not stand.
func TestWhichCoresAreGrouped(t *testing.T) {
	expectAll(t, []told{
		{"select a from t", api.OK}, {"select a from t group by b", api.ErrForm}, {"select a from t group by 1", api.ErrForm}, {"select a from t having true", api.ErrForm}, {"select a from t having count(*) > 1", api.ErrForm}, {"select 1 from t having a > 1", api.ErrForm},
		{"select a, count(*) from t", api.ErrForm}, {"select count(*), a from t", api.ErrForm}, {"select a, 1 + coalesce(1, max(b)) from t", api.ErrForm}, {"select max(b) + a from t", api.ErrForm}, {"select a, case when min(b) > 1 then 1 end from t", api.ErrForm}, {"select *, count(*) from t", api.ErrForm}, {"select t.*, count(*) from t", api.ErrForm},
		{"select a from t order by count(*)", api.ErrForm}, {"select a from t order by 1, a, abs(max(b)) desc", api.ErrForm}, {"select 1 from t order by a, count(*)", api.ErrForm}, {"select 1 from t order by count(*), a", api.ErrForm}, {"select a as q from t order by q, sum(b)", api.ErrForm}, {"select 1 from t order by count(*), 1", api.OK},
		// What is not counted: queries within, sources, other cores.
		{"select a, (select count(*) from u) from t", api.OK}, {"select a from t order by (select count(*) from u)", api.OK}, {"select a from t where b > (select count(*) from u)", api.OK}, {"select a, exists (select max(e) from u) from t", api.OK}, {"select a in (select count(*) from u) from t", api.OK}, {"select a from (select count(*) as a from t) x", api.OK}, {"select * from t, (select max(a) from t) x", api.OK}, {"select a, (select 1 from u group by f having f) from t", api.OK},
		{"select a from t union select count(*) from u", api.OK}, {"select count(*) from t union select a from u", api.OK}, {"select count(*) from t union select a from u group by a", api.OK}, {"select a from t union select a from u having true", api.ErrForm},
		// ORDER BY counts for the only core just; and there it counts even if it is wrong.
		{"select a from t union select a from u order by count(*)", api.ErrForm}, {"select distinct a, 1 + 'x' from t order by count(*)", api.ErrForm}, {"select distinct 1 + 'x' from t order by count(*)", api.ErrType}, {"select a, 1 + 'x' from t order by sum(count(*))", api.ErrForm}, {"select a, 1 + 'x' from t union select 1, 2 order by count(*)", api.ErrType}, {"select a, 1 + 'x' from t order by sum(zz)", api.ErrForm}, {"select a, 1 + 'x' from t order by (select sum(zz))", api.ErrType},
		// A core without sources has no columns that could stand wrongly.
		{"select 1, count(*)", api.OK}, {"select 1 having true", api.OK}, {"select 1 group by 2", api.OK}, {"select 1 + count(*) order by max(1)", api.OK},
	})
}

// P17: behind the groups: no column outside of aggregates and of what is grouped by.
func TestBehindGroups(t *testing.T) {
	expectAll(t, []told{
		{"select a from t group by a", api.OK}, {"select t.a from t group by a", api.OK}, {"select a from t group by t.a", api.OK}, {"select x.a from t x group by a", api.OK}, {"select a as b from t group by a", api.OK}, {"select a + a * 2, -a from t group by a", api.OK}, {"select a, b from t group by a", api.ErrForm}, {"select b, a from t group by a", api.ErrForm}, {"select a, b from t group by b, a", api.OK}, {"select a + b from t group by a", api.ErrForm}, {"select b + a from t group by a", api.ErrForm}, {"select a + b from t group by b, a", api.OK},
		{"select max(b) from t group by a", api.OK}, {"select a + max(b) from t group by a", api.OK}, {"select max(a + b) from t group by a + b", api.OK}, {"select max(b) + b from t group by a", api.ErrForm}, {"select count(*), count(b), sum(distinct b) from t group by a", api.OK}, {"select coalesce(max(b), b) from t group by a", api.ErrForm},
		{"select 1, 'x', null from t group by a", api.OK}, {"select case when a > 1 then max(c) else min(c) end from t group by a", api.OK}, {"select case when a > 1 then c end from t group by a", api.ErrForm}, {"select case a when 1 then 'x' else c end from t group by a", api.ErrForm}, {"select a in (1, b) from t group by a", api.ErrForm}, {"select a between 1 and b from t group by a", api.ErrForm}, {"select b is null from t group by a", api.ErrForm}, {"select cast(b as text) from t group by a", api.ErrForm}, {"select upper(c) from t group by a", api.ErrForm}, {"select not d from t group by a", api.ErrForm}, {"select -b from t group by a", api.ErrForm},
		// A primary key does not stand for its row.
		{"select b from t group by a, c", api.ErrForm},
		{"select * from t group by a", api.ErrForm}, {"select * from t group by a, b, c", api.ErrForm}, {"select * from t group by d, c, b, a", api.OK}, {"select t.* from t group by d, c, b, a", api.OK}, {"select * from t group by a, b, c, not d", api.ErrForm}, {"select t.* from t, u group by t.a, b, c, d", api.OK}, {"select u.* from t, u group by t.a, b, c, d", api.ErrForm}, {"select * from t, u group by t.a, b, c, d", api.ErrForm}, {"select * from t, u group by t.a, b, c, d, e, f", api.ErrForm}, {"select * from t, u group by t.a, b, c, d, e, f, u.a", api.OK}, {"select *, count(*) from (select 1) x", api.ErrForm}, {"select x.a, y.a from t x, t y group by x.a", api.ErrForm}, {"select x.a from t x, t y group by y.a", api.ErrForm}, {"select x.a, y.a from t x, t y group by y.a, x.a", api.OK},
		{"select * from (select a as q from t) x group by q", api.OK}, {"select * from (select a as q, a as q from t) x group by 1", api.ErrForm},
		// HAVING: behind it was found to be a truth.
		{"select 1 from t group by a having a > 1", api.OK}, {"select 1 from t group by a having b > 1", api.ErrForm}, {"select 1 from t group by a having b", api.ErrType}, {"select 1 from t group by a having d", api.ErrForm}, {"select 1 from t group by a having max(d)", api.OK}, {"select 1 from t group by a having count(b)", api.ErrType}, {"select 1 from t having max(a) > 1 and min(c) = 'x'", api.OK}, {"select 1 from t having max(a) > b", api.ErrForm},
		// ORDER BY.
		{"select 1 from t group by a order by a", api.OK}, {"select 1 from t group by a order by b", api.ErrForm}, {"select 1 from t group by a order by max(b), a + 1", api.OK}, {"select 1 from t group by a order by a, b + 1", api.ErrForm}, {"select a as b from t group by a order by b", api.OK}, {"select a as b from t group by a order by t.b", api.ErrForm}, {"select a as b from t group by a order by b + 1", api.ErrForm}, {"select count(*) from t order by a", api.ErrForm}, {"select count(*) as a from t order by a", api.OK}, {"select max(a) from t order by 1", api.OK}, {"select count(*) from t order by zz", api.ErrName}, {"select 1 from t group by a order by b + 'x'", api.ErrType}, {"select 1 from t group by a order by count(c) || 'x'", api.ErrType},
		// Right behind the kind was found.
		{"select b + 'x' from t group by a", api.ErrType}, {"select b + zz from t group by a", api.ErrName}, {"select b, zz from t group by a", api.ErrForm}, {"select zz, b from t group by a", api.ErrName}, {"select *, zz from t group by a", api.ErrForm}, {"select zz, * from t group by a", api.ErrName}, {"select b from t group by a having 1", api.ErrForm}, {"select a from t group by a having 1 order by b", api.ErrType}, {"select sum(zz), b from t", api.ErrName}, {"select b, sum(zz) from t", api.ErrForm},
		// Ahead of the groups anything may stand.
		{"select a from t where b > 1 group by a", api.OK}, {"select x.a from t x join u y on b = y.a where e = 'x' group by x.a", api.OK},
		// What is grouped by, of the columns of the core; not of the items.
		{"select a + 1 as q from t group by q", api.ErrName}, {"select b as a from t group by a", api.ErrForm}, {"select a from t group by 1", api.ErrForm},
	})
}

// groupForms: expressions over t, none of which is made the same way as another one, nor is a part of another one.
func groupForms() []string {
	return []string{
		"a + b", "b + a", "a - b", "a * b", "a / b", "a % b", "-a", "-b", "a + 1", "a + 2", "1 + a", "a + null", "a + 9223372036854775807",
		"not d", "d and d", "d or d", "d and true", "d and false", "c || c", "c || 'x'", "c || 'X'", "c || ''", "c like 'x'", "c like 'y'", "c || 'z' || 'y'", "c || ('y' || 'x')",
		"a = b", "b = a", "a <> b", "a < b", "a <= b", "a > b", "a >= b", "c = c", "d = d", "a is null", "b is null", "c is null", "a is not null and d",
		"a between 1 and 2", "a between 2 and 1", "b between 1 and 2", "a in (1, 2)", "a in (2, 1)", "a in (1, 2, 2)", "a in (1)", "b in (1, 2)",
		"cast(a as text)", "cast(a as integer)", "cast(a as boolean)", "cast(b as text)", "upper(c)", "lower(c)", "length(c)", "abs(a)", "abs(b)", "substr(c, 1)", "substr(c, 2)", "substr(c, 1, 2)", "coalesce(a)", "coalesce(a, b)", "coalesce(b, a)", "coalesce(a, 1)", "nullif(a, 1)", "nullif(a, b)",
		"case when d then 1 end", "case when d then 2 end", "case d when true then 1 end", "case when d then true else false end", "case d when true then false end", "case when d then true when false then false end", "case when d then 1 else 2 end", "case when d then 1 when true then 2 end", "case a when 1 then 2 end", "case a when 1 then 2 else null end",
	}
}

// P17: what is made the same way: just what it is, whatever its columns are called.
func TestMadeTheSameWay(t *testing.T) {
	tables := made(t, schema)
	for i, e := range groupForms() {
		for j, g := range groupForms() {
			want := api.ErrForm
			if i == j {
				want = api.OK
			}
			expect(t, tables, "select "+e+" from t group by "+g, want)
			expect(t, tables, "select 1 from t group by 1, "+g+" order by coalesce("+e+", null)", want)
			expect(t, tables, "select coalesce(nullif(null, "+e+"), max("+e+")) from t group by "+g+", 'x'", want)
		}
	}
	for e, x := range map[string]string{"a + b": "x.a + x.b", "-a": "-x.a", "a = b": "a = x.b", "c || c": "x.c || c", "a in (b, 1)": "x.a in (x.b, 1)", "case when d then c end": "case when x.d then c end"} {
		for _, form := range []string{"select $ from t x group by $", "select 1 from t x group by $ having ($) is null", "select 1 from t x group by $ order by coalesce($)"} {
			expect(t, tables, fill(form, e, x), api.OK)
			expect(t, tables, fill(form, x, e), api.OK)
		}
	}
	expectAll(t, []told{
		{"select (a + b) * 2 from t group by a + b", api.OK}, {"select a + b * 2 from t group by a + b", api.ErrForm}, {"select 2 * (a + b) + a from t group by a + b", api.ErrForm}, {"select 2 * (a + b) + a from t group by a + b, a", api.OK}, {"select a + b + 1 from t group by a + b", api.OK}, {"select 1 + a + b from t group by a + b", api.ErrForm}, {"select a from t group by a + b", api.ErrForm}, {"select a + b from t group by (a + b) + 1", api.ErrForm},
		{"select x.a + y.b from t x, t y group by x.a + y.b", api.OK}, {"select x.a + x.b from t x, t y group by x.a + y.b", api.ErrForm}, {"select y.a + y.b from t x, t y group by x.a + y.b", api.ErrForm}, {"select y.a from t x, t y group by x.a", api.ErrForm}, {"select x.a + e from t x, (select 1 as e) y group by a + y.e", api.OK},
		{"select A + B from t group by a + b", api.OK}, {`select "a" + T.b from t group by a + b`, api.OK}, {"select a + 1 from t group by a + 01", api.OK}, {"select a <> 1 from t group by a != 1", api.OK}, {"select a not in (1) from t group by not a in (1)", api.OK}, {"select a not between 1 and 2 from t group by a between 1 and 2", api.OK}, {"select a + 1 from t group by ((a) + (1))", api.OK}, {`select h from v group by "H"`, api.ErrForm}, {"select UPPER(c) from t group by upper(c)", api.OK},
		// What has a query in it is the same as nothing.
		{"select (select 1) from t group by (select 1)", api.OK}, {"select a + (select 1) from t group by a + (select 1)", api.ErrForm}, {"select a in (select 1) from t group by a in (select 1)", api.ErrForm}, {"select a + 1 + (select 1) from t group by a + 1 + (select 1)", api.ErrForm}, {"select a + 1 + (select 1) from t group by a + 1", api.OK}, {"select (select a) from t group by (select a)", api.ErrForm}, {"select exists (select 1 where a = 1) from t group by exists (select 1 where a = 1)", api.ErrForm}, {"select coalesce(b, (select 1)) from t group by coalesce(b, (select 1))", api.ErrForm}, {"select coalesce(b, (select 1)) from t group by b", api.OK}, {"select exists (select 1) from t group by a", api.OK},
		// Columns of further out are the same ones, too; and are no columns of the core.
		{"select (select x.a + t.b from u x group by x.a + t.b) from t", api.OK}, {"select (select x.a + b from u x group by a + t.b) from t", api.OK}, {"select (select x.a + t.b from u x group by x.a + t.a) from t", api.ErrForm}, {"select (select t.b from u group by e) from t", api.OK}, {"select (select b + count(*) from u) from t", api.OK}, {"select (select t.a + max(a) from u) from t", api.OK}, {"select (select t.a + a from u group by a) from t", api.OK}, {"select (select t.a + u.a from u group by t.a) from t", api.ErrForm}, {"select (select a from u group by t.a) from t", api.ErrForm},
	})
}

// P17: in a query within, a column of a grouped core must be one that is grouped by by itself.
func TestGroupedCoreInQueriesWithin(t *testing.T) {
	tables := made(t, schema)
	// Each place of a query within, and of one within that.
	for _, form := range []string{
		"(select $)", "(select 1 from u where $ = 1)", "(select 1 from u group by $)", "(select 1 from u group by e having $ = 1)", "(select 1 from u order by $ + 1)", "(select 1 from v x join v y on $ = 1)", "(select q from (select $ as q) x)", "(select max($) from u)", "(select 1 from u having sum($) > 1)", "(select 1 from u union select $)", "1 in (select $)", "exists (select $)", "exists (select 1, $ + 1)", "1 + (select (select $))", "coalesce(1, (select 1 from u where exists (select 1 from v where $ > 1)))", "exists (select 1 from u order by max($))", "(select 1 from u where 1 in (select $ from v))", "max(a) + (select $)", "(select count(*) from u where f and $ = 1)", "coalesce(max(b), (select $))", "(select q from (select 1 as q from u where u.a = $) x)",
	} {
		for _, core := range []string{"select $ from t group by $$", "select 1 from t group by $$ having ($) is null", "select 1 from t group by $$ order by coalesce($)", "select a, $ from t group by $$", "select 1 as q from t group by $$ order by q, not ($) is null"} {
			for _, x := range []struct {
				column, group string
				want          api.Errno
			}{
				{"t.b", "a, b", api.OK}, {"t.b", "t.b, a", api.OK}, {"t.b", "a", api.ErrForm}, {"t.b", "a, b + 1", api.ErrForm}, {"(t.b + 1)", "a, b + 1", api.ErrForm}, {"(t.b + 1)", "a, b + 1, b", api.OK}, {"b", "a, b", api.OK}, {"b", "a", api.ErrForm}, {"t.a", "a", api.OK}, {"7", "a", api.OK},
			} {
				expression := strings.ReplaceAll(form, "$", x.column)
				text := strings.Replace(strings.Replace(core, "$$", x.group, 1), "$", expression, 1)
				expect(t, tables, text, x.want)
			}
		}
	}
	expectAll(t, []told{
		{"select count(*), (select b) from t", api.ErrForm}, {"select (select b), count(*) from t", api.ErrForm}, {"select (select b) from t order by count(*)", api.ErrForm}, {"select (select b) from t having true", api.ErrForm}, {"select (select b) from t", api.OK}, {"select (select max(b) from u) from t group by a", api.ErrForm}, {"select (select max(t.b)) from t group by a", api.ErrForm}, {"select (select count(*) + b from u) from t", api.OK},
		// Names that mean something within are no columns of this core.
		{"select (select a from u) from t group by b", api.OK}, {"select (select b from (select 1 as b) x) from t group by a", api.OK}, {"select (select a + 1 from u x where x.a = t.b) from t group by a + 1, b", api.OK}, {"select (select t.a + 1 from u) from t group by a + 1", api.ErrForm}, {"select (select t.a from u t) from t group by b", api.OK}, {"select (select t.b from u t) from t group by a", api.ErrForm}, {"select exists (select * from u) from t group by a", api.OK},
		// A name in ORDER BY that a column of the query has is that one.
		{"select (select e as b from u order by b) from t group by a", api.OK}, {"select (select e from u order by b) from t group by a", api.ErrForm}, {"select (select e as b from u order by b || 'x') from t group by a", api.ErrType}, {"select (select e as b from u order by b + 1) from t group by a", api.ErrForm}, {"select (select e as b from u order by t.b) from t group by a", api.ErrForm},
		// In an aggregate of this core any of its columns may stand.
		{"select max((select b)) from t group by a", api.OK}, {"select count((select 1 from u where u.a = t.b)) from t", api.OK}, {"select max((select b)) + (select b) from t group by a", api.ErrForm}, {"select 1 from t group by a having max((select c from u)) = 'x'", api.OK}, {"select 1 from t order by min((select c from u))", api.OK},
		// The core that is grouped is another one.
		{"select (select (select t.b from v) from u group by e) from t", api.OK}, {"select (select (select u.a from v) from u group by e) from t", api.ErrForm}, {"select (select (select u.a from v) from u group by u.a) from t", api.OK}, {"select (select (select t.b + u.a from v) from u group by u.a) from t group by t.a", api.ErrForm}, {"select (select (select t.b + u.a from v) from u group by u.a) from t group by t.b", api.OK}, {"select (select max(t.b + u.a) from u group by e) from t", api.OK}, {"select (select max(t.b + u.a) from u group by e) from t group by a", api.ErrForm}, {"select (select sum((select t.b + u.a)) from u group by e) from t group by b", api.OK}, {"select (select sum((select t.b + u.a)) from u group by e) from t group by a", api.ErrForm},
		// Ahead of the groups, and in sources, anything may stand.
		{"select 1 from t where (select b) = 1 group by a", api.OK}, {"select 1 from t x join u on (select x.b + u.a) = 1 group by e", api.OK}, {"select 1 from t group by a, (select b)", api.OK},
		// Right behind the kind was found.
		{"select (select b), zz from t group by a", api.ErrForm}, {"select (select b) + 'x' from t group by a", api.ErrType}, {"select (select b + zz) from t group by a", api.ErrName}, {"select (select b, 1) from t group by a", api.ErrForm}, {"select zz, (select b) from t group by a", api.ErrName}, {"select 1 from t group by a having (select b)", api.ErrType}, {"select 1 from t group by a having (select d)", api.ErrForm}, {"select exists (select b union select 'x') from t group by a", api.ErrType}, {"select exists (select b from nn) from t group by a", api.ErrMissing},
	})
}
