package bind_test

import (
	"strconv"
	"strings"
	"testing"

	"relstore/api"
)

// P17: the sources of a core.
func TestSources(t *testing.T) {
	expectAll(t, []told{
		{"select 1 from t", api.OK}, {"select 1 from nn", api.ErrMissing}, {"select 1 from t x, nn", api.ErrMissing}, {`select 1 from "T"`, api.ErrMissing}, {"select 1 from T", api.OK}, {"select 1 from nn t", api.ErrMissing}, {"select 1 from t nn", api.OK},
		{"select 1 from t, t", api.ErrExists}, {"select 1 from t x, t x", api.ErrExists}, {"select 1 from t x, u x", api.ErrExists}, {"select 1 from t, u t", api.ErrExists}, {"select 1 from u t, t", api.ErrExists}, {"select 1 from t, t x", api.OK}, {"select 1 from t x, t", api.OK}, {"select 1 from t u, u t", api.OK}, {"select 1 from t x, (select 1) x", api.ErrExists}, {"select 1 from (select 1) x, (select 1) x", api.ErrExists}, {"select 1 from (select 1) t, (select 1) u", api.OK}, {"select 1 from (select 1 from x) x", api.ErrMissing}, {"select 1 from t, u, v, t", api.ErrExists}, {`select 1 from t x, t "X"`, api.OK},
		{"select 1 from t left join t on true", api.ErrExists}, {"select 1 from t cross join t", api.ErrExists}, {"select 1 from t join t x on true", api.OK},
		// What is within has names of its own.
		{"select (select 1 from t) from t", api.OK}, {"select 1 from t, (select 1 from t) x", api.OK}, {"select 1 from t union select 1 from t", api.OK},
		{"select 1 from (select zz) x", api.ErrName}, {"select 1 from (select 1 + 'x') x", api.ErrType}, {"select 1 from (select *) x", api.ErrForm}, {"select 1 from (select 1 union select 'x') x", api.ErrType}, {"select 1 from (select 1 order by 2) x", api.ErrForm},
		{"select x.q + 1 from (select null as q) x", api.OK}, {"select x.q || 'x' from (select null as q) x", api.OK},
	})
}

// froms: so many sources with names of their own.
func froms(n int) string {
	var l []string
	for i := range n {
		l = append(l, "t t"+strconv.Itoa(i))
	}
	return strings.Join(l, ", ")
}

// P17: MaxFrom.
func TestManySources(t *testing.T) {
	expectAll(t, []told{
		{"select 1 from " + froms(api.MaxFrom), api.OK}, {"select 1 from " + froms(api.MaxFrom+1), api.ErrLarge}, {"select 1 from nn, " + froms(api.MaxFrom-1), api.ErrMissing}, {"select 1 from nn, " + froms(api.MaxFrom), api.ErrLarge}, {"select 1 from " + froms(api.MaxFrom) + ", t t0", api.ErrLarge}, {"select 1 from (select zz) x, " + froms(api.MaxFrom), api.ErrLarge}, {"select zz from " + froms(20) + " where 1", api.ErrLarge}, {"select 1 from " + froms(1000), api.ErrLarge},
		{"select 1 from " + froms(api.MaxFrom) + " union select 1 from " + froms(api.MaxFrom), api.OK}, {"select (select 1 from " + froms(api.MaxFrom) + ") from " + froms(api.MaxFrom), api.OK}, {"select 1 from (select 1 from " + froms(api.MaxFrom) + ") x, (select 1 from " + froms(api.MaxFrom) + ") y", api.OK}, {"select 1 from (select 1 from " + froms(api.MaxFrom+1) + ") x", api.ErrLarge}, {"select 1 from t where exists (select 1 from " + froms(9) + ")", api.ErrLarge},
		{"select zz, (select 1 from " + froms(9) + ")", api.ErrName}, {"select (select 1 from " + froms(9) + "), zz", api.ErrLarge},
	})
}

// P17: ON, WHERE and HAVING are truths; GROUP BY may be anything.
func TestTruths(t *testing.T) {
	tables := made(t, schema)
	for _, form := range []string{"select 1 from t join u on $", "select 1 from t left join u on $", "select 1 from t where $", "select 1 from t having $", "select 1 from t group by a, b, c, d having $", "update t set b = 1 where $", "delete from t where $", "create table w (a integer, check ($))", "create table w (a integer check ($))"} {
		for _, x := range []told{{"true", api.OK}, {"false", api.OK}, {"null", api.OK}, {"1 = 1", api.OK}, {"not null", api.OK}, {"1", api.ErrType}, {"'x'", api.ErrType}, {"1 + 1", api.ErrType}, {"'x' || null", api.ErrType}, {"cast(1 as boolean)", api.OK}, {"cast(true as text)", api.ErrType}, {"coalesce(null, null)", api.OK}, {"-null", api.ErrType}} {
			expect(t, tables, fill(form, x.text), x.want)
		}
	}
	for _, x := range []string{"true", "null", "1", "'x'", "a", "t.c", "(select 1)", "a = 1", "(select b)"} {
		expect(t, tables, "select 1 from t group by "+x, api.OK)
		expect(t, tables, "select 1 from t group by b, "+x, api.OK)
	}
}

// P17: all columns.
func TestStars(t *testing.T) {
	expectAll(t, []told{
		{"select *", api.ErrForm}, {"select 1, *", api.ErrForm}, {"select * where true", api.ErrForm}, {"select * from t", api.OK}, {"select *, * from t, u", api.OK}, {"select (select * from (select 1) x)", api.OK}, {"select (select *) from t", api.ErrForm}, {"select exists (select *) from t", api.ErrForm},
		{"select t.*", api.ErrName}, {"select t.* from t", api.OK}, {"select t.* from t x", api.ErrName}, {"select x.* from t x", api.OK}, {"select u.* from t", api.ErrName}, {"select x.*, t.* from t, (select 1) x", api.OK}, {"select exists (select t.* from u) from t", api.ErrName}, {`select "X".* from t x`, api.ErrName}, {"select *, u.* from t", api.ErrName}, {"select u.*, * from t", api.ErrName}, {"select 1, u.*, zz", api.ErrName},
	})
}

// P17: the errors of a core in their order: sources with their ON, WHERE, GROUP BY, items, HAVING; then ORDER BY.
func TestFirstErrorOfCore(t *testing.T) {
	sources := []told{{"nn", api.ErrMissing}, {"(select zz)", api.ErrName}, {"(select 1 + 'x')", api.ErrType}, {"(select *)", api.ErrForm}, {"(select 1 from " + froms(9) + ")", api.ErrLarge}}
	truth := func(right string) piece {
		return piece{right, append(wrongs(), told{"1", api.ErrType}, told{"count(*) > 1", api.ErrForm})}
	}
	firsts(t, "select {6}, {7} from {0} x join {1} {2} on {3} where {4} group by {5} having {8} order by {9}, {10}",
		piece{"t", sources},
		piece{"u", sources},
		piece{"y", []told{{"x", api.ErrExists}}},
		truth("x.a = y.a"),
		truth("b > 1"),
		piece{"b", append(wrongs(), told{"count(*)", api.ErrForm})},
		piece{"b", append(wrongs(), told{"*", api.ErrForm}, told{"z.*", api.ErrName}, told{"c", api.ErrForm}, told{"(select c)", api.ErrForm})},
		piece{"max(c)", append(wrongs(), told{"y.*", api.ErrForm}, told{"count(max(c))", api.ErrForm}, told{"e", api.ErrForm})},
		piece{"b > 1", append(wrongs(), told{"1", api.ErrType}, told{"c = 'x'", api.ErrForm})},
		piece{"max(e)", append(wrongs(), told{"7", api.ErrForm}, told{"c", api.ErrForm})},
		piece{"b + 1", append(wrongs(), told{"0", api.ErrForm}, told{"e", api.ErrForm})},
	)
	// Source by source: what one says comes ahead of the next one.
	firsts(t, "select 1 from t x join {0} {1} on {2} left join {3} {4} on {5}, {6} {7}",
		piece{"u", sources}, piece{"y", []told{{"x", api.ErrExists}}}, truth("x.a = y.a"),
		piece{"v", sources}, piece{"z", []told{{"x", api.ErrExists}, {"y", api.ErrExists}}}, truth("g = y.a"),
		piece{"(select 1)", sources}, piece{"w", []told{{"x", api.ErrExists}, {"z", api.ErrExists}}})
	firsts(t, "select {3}, {4}, {5} from t where {0} group by {1}, {2} having {6}",
		truth("d"), piece{"a", wrongs()}, piece{"c || 'x'", wrongs()}, piece{"a as x", wrongs()}, piece{"c || 'x'", wrongs()}, piece{"count(b)", wrongs()}, piece{"true", append(wrongs(), told{"1", api.ErrType})})
}
