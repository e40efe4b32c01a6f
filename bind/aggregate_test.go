package bind_test

import (
	"testing"

	"relstore/api"
)

// P17: aggregates may stand in the items, HAVING and ORDER BY of a core, not within another one.
func TestWhereAggregatesStand(t *testing.T) {
	tables := made(t, schema)
	for _, x := range []struct {
		form string
		want api.Errno
	}{
		{"select $ from t", api.OK}, {"select 1, coalesce($) from t", api.OK}, {"select 1 from t having $ is null", api.OK}, {"select 1 from t order by coalesce($)", api.OK}, {"select 1 from t order by $", api.OK},
		{"select 1 from t join u on $ is null", api.ErrForm}, {"select 1 from t left join u on coalesce($) is null", api.ErrForm}, {"select 1 from t where $ is null", api.ErrForm}, {"select 1 from t group by $", api.ErrForm}, {"select 1 from t group by 1, coalesce($)", api.ErrForm},
		{"select count($) from t", api.ErrForm}, {"select max(coalesce(1, $)) from t", api.ErrForm}, {"select 1 from t having min($) is null", api.ErrForm}, {"select 1 from t order by count($)", api.ErrForm},
		{"insert into v (g) values (coalesce(1, $))", api.ErrForm}, {"update v set g = coalesce(1, $)", api.ErrForm}, {"update v set g = 1 where $ is null", api.ErrForm}, {"delete from v where $ is null", api.ErrForm}, {"create table w (a integer, check ($ is null))", api.ErrForm},
		// In a query within they belong to that one, wherever it stands.
		{"select 1 from t where (select $ from t) is null", api.OK}, {"select 1 from t join u on (select $ from t) is null", api.OK}, {"select 1 from t group by (select $ from t)", api.OK}, {"select count((select $ from t)) from t", api.OK}, {"select max((select 1 from t having $ is null)) from t", api.OK}, {"select 1 from t where exists (select 1 from t order by $)", api.OK},
		{"insert into v (g) values (coalesce(1, length(cast((select $ from t) as text))))", api.OK}, {"update v set g = 1 where (select $ from t) is null", api.OK}, {"delete from v where (select $ from t) is null", api.OK}, {"select 1 from (select $ from t) x", api.OK}, {"select 1 from t union select length(cast($ as text)) from t", api.OK},
		{"select (select 1 from t where $ is null) from t", api.ErrForm}, {"select (select 1 from t group by $) from t", api.ErrForm}, {"select 1 from (select 1 from t where $ is null) x", api.ErrForm}, {"select (select count($) from t)", api.ErrForm}, {"select 1 from t order by (select 1 from u where $ is null)", api.ErrForm}, {"select count((select sum(count(*)))) from t where (select $ from t) is null", api.ErrForm},
	} {
		for _, agg := range []string{"count(*)", "count(1)", "sum(1)", "avg(1)", "min('x')", "max(true)", "count(distinct 'x')"} {
			expect(t, tables, fill(x.form, agg), x.want)
		}
	}
}

// P17: an aggregate's errors in their order.
func TestAggregates(t *testing.T) {
	expectAll(t, []told{
		{"select count(*) from t", api.OK}, {"select sum(*) from t", api.ErrForm}, {"select avg(*) from t", api.ErrForm}, {"select min(*) from t", api.ErrForm}, {"select max(*) from t", api.ErrForm}, {"select count(*)", api.OK}, {"select sum(*)", api.ErrForm},
		{"select sum(c) from t", api.ErrType}, {"select avg(d) from t", api.ErrType}, {"select min(c) || 'x', not max(d), min(b) + max(a) from t", api.OK}, {"select min(c) + 1 from t", api.ErrType}, {"select count(c) + count(d) from t", api.OK}, {"select count(c) || 'x' from t", api.ErrType}, {"select avg(a) || 'x' from t", api.ErrType}, {"select sum(distinct c) from t", api.ErrType},
		// Where none may stand that comes ahead of its part; else its part comes first.
		{"select 1 from t where count(zz) > 1", api.ErrForm}, {"select 1 from t where sum(c) > 1", api.ErrForm}, {"select 1 from t where max(1 + 'x') > 1", api.ErrForm}, {"select sum(count(zz)) from t", api.ErrForm}, {"select sum(max(c)) from t", api.ErrForm}, {"select 1 from t where sum(*) > 1", api.ErrForm}, {"select count(zz) from t", api.ErrName}, {"select sum(1 + 'x' || zz) from t", api.ErrType}, {"select sum(c || zz) from t", api.ErrName}, {"select count((select 1 from nn)) from t", api.ErrMissing},
		{"select 1 from t where zz and count(*) > 1", api.ErrName}, {"select 1 from t where count(*) > 1 and zz", api.ErrForm},
		{`select "count"(*), "MAX"(1) from t`, api.ErrName}, {"select COUNT(*), Max(a) from t", api.OK},
	})
}
