package bind_test

import (
	"testing"

	"relstore/api"
)

// P17: a name is looked for core by core, from the innermost one outward.
func TestNames(t *testing.T) {
	expectAll(t, []told{
		{"select a", api.ErrName}, {"select a from t", api.OK}, {"select e from t", api.ErrName}, {"select t.a from t", api.OK}, {"select t.e from t", api.ErrName}, {"select u.a from t", api.ErrName}, {"select u.e from t", api.ErrName},
		{"select b from t, u", api.OK}, {"select e from t, u", api.OK}, {"select a from t, u", api.ErrName}, {"select t.a, u.a from t, u", api.OK}, {"select t.e from t, u", api.ErrName}, {"select v.a from t, u", api.ErrName},
		{"select a from t x", api.OK}, {"select x.a from t x", api.OK}, {"select t.a from t x", api.ErrName}, {"select x.a, y.a from t x, t y", api.OK}, {"select a from t x, t y", api.ErrName}, {"select b from t x, t y", api.ErrName},
		{"select u.b from t u", api.OK}, {"select u.e from t u", api.ErrName}, {"select u.b, t.e from t u, u t", api.OK}, {"select t.b from t u, u t", api.ErrName},
		{`select h || 'x', not "H" from v`, api.OK}, {`select H || 'x' from v`, api.OK}, {`select "H" || 'x' from v`, api.ErrType}, {`select x.a from t "X"`, api.ErrName}, {`select "X".a from t "X"`, api.OK}, {`select X.a from t x`, api.OK}, {`select a from "T"`, api.ErrMissing},
	})
}

// P17: further out.
func TestNamesFurtherOut(t *testing.T) {
	expectAll(t, []told{
		{"select (select b from u) from t", api.OK}, {"select (select t.b from u) from t", api.OK}, {"select (select zz from u) from t", api.ErrName}, {"select (select t.zz from u) from t", api.ErrName}, {"select (select v.g from u) from t", api.ErrName},
		// The innermost core that has such a column counts, however it is within.
		{"select (select a || 'x' from (select 'x' as a) y) from t", api.OK}, {"select (select t.a || 'x' from (select 'x' as a) t) from t", api.OK}, {"select (select t.a || 'x' from (select 'x' as a) y) from t", api.ErrType}, {"select (select a + 1 from (select 'x' as a) y) from t", api.ErrType},
		// A table of that name without such a column does not hide the one further out.
		{"select (select t.b + 1 from u t) from t", api.OK}, {"select (select t.e + 1 from u t) from t", api.ErrType}, {"select (select t.zz from u t) from t", api.ErrName},
		// Two in one core, though there is one further out; one within, though there are two further out.
		{"select (select a from u x, u y) from t", api.ErrName}, {"select (select e from u x, u y) from t", api.ErrName}, {"select (select b from u x, u y) from t", api.OK}, {"select (select a from u) from t, u", api.OK}, {"select (select a from v) from t, u", api.ErrName}, {"select (select t.a from v) from t, u", api.OK}, {"select (select y.a from u y, u z) from t y", api.OK},
		// Core by core, more than one outward.
		{"select (select (select b from v) from u) from t", api.OK}, {"select (select (select a || 'x' from v) from (select 'x' as a) y) from t", api.OK}, {"select (select (select (select t.c || e || h from v) from u x) from u y, u) from t", api.OK}, {"select (select (select (select t.c || e || h from v) from v x) from u y, u) from t", api.ErrName}, {"select (select (select (select t.c || y.e || h from v) from v x) from u y, u) from t", api.OK}, {"select (select (select a from v) from (select 1) x) from t, u", api.ErrName}, {"select (select (select a from v) from u) from t, t t2", api.OK},
		// In each place of a query within.
		{"select 1 from t where exists (select 1 from u where a = b)", api.OK}, {"select 1 from t where exists (select 1 from u where u.a = t.b and e = c)", api.OK}, {"select 1 from t where exists (select 1 from u group by b having b > 1)", api.OK}, {"select 1 from t where exists (select 1 from u order by b)", api.OK}, {"select 1 from t where exists (select 1 from u join v on b = g)", api.OK}, {"select 1 from t where exists (select 1 from (select b + 1) x)", api.OK}, {"select 1 from t where exists (select 1 from u union select b)", api.OK}, {"select 1 from t where exists (select 1 from u order by zz)", api.ErrName},
		{"select 1 from t x join u y on exists (select 1 from v where g = x.a + y.a)", api.OK}, {"select 1 from t group by (select b)", api.OK}, {"select 1 from t order by (select b)", api.OK}, {"select 1 from t order by (select zz)", api.ErrName},
		// What is within is not seen from outside, nor from beside.
		{"select e, (select 1 from u) from t", api.ErrName}, {"select (select x.a from u x), (select x.a from v) from t", api.ErrName}, {"select a from t where exists (select 1 from u x) and x.a = 1", api.ErrName}, {"select a from t union select b from u", api.ErrName}, {"select g from v union select a from u where g = 1", api.ErrName},
	})
}

// P17: a query that is a source sees what is further out than its core, not the other sources.
func TestNamesInSources(t *testing.T) {
	expectAll(t, []told{
		{"select 1 from t, (select t.a) x", api.ErrName}, {"select 1 from t, (select b) x", api.ErrName}, {"select 1 from (select b) x, t", api.ErrName}, {"select 1 from t join (select b) x on true", api.ErrName}, {"select 1 from t left join (select 1 from u where u.a = b) x on true", api.ErrName},
		{"select (select x.a from (select t.a) x) from t", api.OK}, {"select (select 1 from u, (select u.a) x) from t", api.ErrName}, {"select (select 1 from u, (select u.a) x) from u", api.OK}, {"select (select 1 from u, (select a) x) from t", api.OK}, {"select (select 1 from v, (select g) x) from t", api.ErrName},
		{"select (select 1 from (select 1 from (select c || 'x') y) z) from t", api.OK}, {"select (select 1 from (select 1 from u, (select e) y) z) from t", api.ErrName},
		{"select x.q from (select a as q from t) x", api.OK}, {"select q from (select a as q from t) x", api.OK}, {"select a from (select a as q from t) x", api.ErrName}, {"select t.q from (select a as q from t) x", api.ErrName}, {"select x.column1 from (select a + 1 from t) x", api.OK}, {"select column2 || 'x' from (select 1, 'x') x", api.OK}, {"select column3 from (select 1, 'x') x", api.ErrName},
		// Two columns of one name in one source.
		{"select 1 from (select a, a from t) x", api.OK}, {"select a from (select a, a from t) x", api.ErrName}, {"select x.a from (select a, a from t) x", api.ErrName}, {"select b from (select a, a, b from t) x", api.OK}, {"select column1 from (select 1, 2 as column1) x", api.ErrName}, {"select q from (select a as q, b as q from t) x", api.ErrName}, {"select x.* from (select a, a from t) x", api.OK},
		{"select a from (select * from t, u) x", api.ErrName}, {"select e || c from (select * from t, u) x", api.OK},
	})
}

// P17: in ON the sources up to this one can be named.
func TestNamesInOn(t *testing.T) {
	expectAll(t, []told{
		{"select 1 from t join u on t.a = u.a", api.OK}, {"select 1 from t join u on b = 1 and e = 'x'", api.OK}, {"select 1 from t join u on a = 1", api.ErrName}, {"select 1 from t left join u on e = c", api.OK},
		{"select 1 from t join u on g = 1 join v on true", api.ErrName}, {"select 1 from t join u on v.g = 1, v", api.ErrName}, {"select 1 from t join u on true join v on g = b and e = h", api.OK}, {"select 1 from t, v join u on g = b", api.OK},
		// One that comes later is not there yet, so there are not two, and one further out is seen.
		{"select 1 from t x join v on x.a = a join u on true", api.OK}, {"select 1 from t join v on a = 1 join u on a = 1", api.ErrName}, {"select (select 1 from v join v w on b = v.g join t x on true) from t", api.OK}, {"select (select 1 from v join v w on b || 'x' = 'x' join (select 'x' as b) x on true) from t", api.ErrType}, {"select (select 1 from v join v w on true join (select 'x' as b) x on b || 'x' = 'x') from t", api.OK},
		{"select (select 1 from t x join v on exists (select 1 where e = 'x') join u on true)", api.ErrName},
	})
}
