package query_test

import "testing"

// P18: DISTINCT, and what stands between cores.
func TestSets(t *testing.T) {
	expectAll(t, base(t, shop), []told{
		{"select distinct k from l", "null, 10, 20"}, {"select distinct k, f from r", "null false, 10 true, 20 null, 20 false, 30 true"}, {"select distinct 1 from l", "1"}, {"select distinct count(*) from l group by k", "1, 2"}, {"select distinct k from l where false", ""}, {"select distinct null from l", "null"}, {"select distinct *, * from (select k from l) x", "null null, 10 10, 20 20"},
		{"select k from l union select k from r", "null, 10, 20, 30"}, {"select k from l union all select k from r", "null, null, 10, 10, 20, 20, 20, 20, 30"}, {"select k from l intersect select k from r", "null, 10, 20"}, {"select k from r except select k from l", "30"}, {"select k from l except select k from r", ""}, {"select k from l except select 10", "null, 20"}, {"select k from l intersect select 20", "20"}, {"select k from l union select k from l", "null, 10, 20"}, {"select null intersect select null", "null"}, {"select null except select null", ""}, {"select 1 union select null", "null, 1"},
		// From the left.
		{"select 1 union all select 1 union select 2", "1, 2"}, {"select 2 union select 1 union all select 1", "1, 1, 2"}, {"select 1 union select 2 intersect select 2", "2"}, {"select 1 except select 1 union all select 1", "1"}, {"select 1 union all select 1 except select 1", ""}, {"select k from r except select 10 except select 20", "null, 30"}, {"select 1 intersect select 1 union all select 1", "1, 1"}, {"select 1 union all select 1 intersect select 1", "1"}, {"select 3 union all select 2 union all select 1 union all select 2", "1, 2, 2, 3"},
		{"select k, m from r intersect select 20, m from r", "20 2, 20 3"}, {"select id, s from l except select id, 'b' from l", "1 'a', 3 'c', 4 null"}, {"select count(*) from l union select m from r order by 1 desc", "5, 4, 3, 2, 1"}, {"select distinct k from l union all select distinct k from l", "null, null, 10, 10, 20, 20"},
		// Stars that tell a column twice, beside others.
		{"select *, * from (select k from l) x union select k, m from r", "null null, null 5, 10 1, 10 10, 20 2, 20 3, 20 20, 30 4"}, {"select k, k from l intersect select *, * from (select k from r) x", "null null, 10 10, 20 20"}, {"select *, * from (select k from r) x except select k, 10 from r", "null null, 20 20, 30 30"}, {"select *, 1, * from (select 2 as a, 3 as b) x union all select 1, *, * from (select 4 as c, 5 as d) x", "1 4 5 4 5, 2 3 1 2 3"},
	})
}

// P18: the order of rows, and how many of them.
func TestOrder(t *testing.T) {
	expectAll(t, base(t, shop), []told{
		{"select s from l", "null, 'a', 'b', 'c'"}, {"select k, id from l", "null 3, 10 1, 20 2, 20 4"}, {"select f, m from r", "null 3, false 2, false 5, true 1, true 4"},
		{"select id from l order by id desc", "4, 3, 2, 1"}, {"select k, id from l order by k desc", "20 2, 20 4, 10 1, null 3"}, {"select k, id from l order by k desc, id desc", "20 4, 20 2, 10 1, null 3"}, {"select id from l order by k, s desc", "3, 1, 2, 4"}, {"select id from l order by k desc, s", "4, 2, 1, 3"}, {"select id from l order by s is null, s desc", "3, 2, 1, 4"}, {"select id from l order by -id", "4, 3, 2, 1"}, {"select k, id from l order by 2 desc", "20 4, null 3, 20 2, 10 1"}, {"select k, id from l order by 1 desc, 2", "20 2, 20 4, 10 1, null 3"}, {"select id as k, k as id from l order by id", "3 null, 1 10, 2 20, 4 20"}, {"select id as k, k as id from l order by l.id", "1 10, 2 20, 3 null, 4 20"}, {"select -id as id from l order by id", "-4, -3, -2, -1"}, {"select -id as id from l order by id + 0", "-1, -2, -3, -4"}, {"select k as q, id as q from l order by q, 2 desc", "null 3, 10 1, 20 4, 20 2"}, {"select id from l order by 'x'", "1, 2, 3, 4"}, {"select id from l order by null desc", "1, 2, 3, 4"}, {"select distinct k from l order by k desc", "20, 10, null"}, {"select f from r order by f desc", "true, true, false, false, null"}, {"select id from l order by (select max(m) from r where r.k = l.k), id desc", "3, 1, 4, 2"}, {"select 1 from l order by id", "1, 1, 1, 1"}, {"select column1 from (select 1 union select 2) x order by column1 desc", "2, 1"},
		{"select k from l union select m from r order by k desc", "20, 10, 5, 4, 3, 2, 1, null"}, {"select k, id from l union all select 20, 3 order by id desc, 1", "20 4, null 3, 20 3, 20 2, 10 1"}, {"select *, * from (select k, id from l) x order by 4 desc", "20 4 20 4, null 3 null 3, 20 2 20 2, 10 1 10 1"}, {"select *, * from (select k, id from l) x order by 3 desc, 2 desc", "20 4 20 4, 20 2 20 2, 10 1 10 1, null 3 null 3"},
		{"select id from l limit 2", "1, 2"}, {"select id from l limit 0", ""}, {"select id from l limit 9", "1, 2, 3, 4"}, {"select id from l limit 2 offset 1", "2, 3"}, {"select id from l limit 2 offset 3", "4"}, {"select id from l limit 2 offset 4", ""}, {"select id from l limit 0 offset 1", ""}, {"select id from l limit 9223372036854775807 offset 1", "2, 3, 4"}, {"select id from l limit 9223372036854775807 offset 9223372036854775807", ""}, {"select id from l limit 1 offset 9223372036854775807", ""}, {"select id from l order by id desc limit 1 offset 1", "3"}, {"select k from l union all select k from r limit 3 offset 1", "null, 10, 10"}, {"select distinct k from l limit 1 offset 2", "20"}, {"select k from l group by k order by count(*) desc limit 1", "20"},
		{"select id from (select id from l order by id desc limit 2) x order by id", "3, 4"}, {"select id from (select id, k from l order by k desc, id desc limit 1 offset 1) x", "2"},
	})
}

// P18: more rows than are needed, in whatever order they come.
func TestFirstOfMany(t *testing.T) {
	data := base(t, "create table d (n integer); insert into d values (0), (1), (2), (3), (4), (5), (6), (7), (8), (9)")
	const many = "(select a.n * 1000 + b.n * 100 + c.n * 10 + d.n as x, (a.n * 7 + b.n * 3 + c.n * 9 + d.n * 11) % 10 as y from d a, d b, d c, d d) z"
	expectAll(t, data, []told{
		{"select x from " + many + " limit 3", "0, 1, 2"}, {"select x from " + many + " limit 3 offset 5000", "5000, 5001, 5002"}, {"select x from " + many + " order by x desc limit 2", "9999, 9998"}, {"select x from " + many + " order by x desc limit 2 offset 9997", "2, 1"}, {"select y, x from " + many + " order by y, x desc limit 1", "0 9999"}, {"select distinct y from " + many + " order by 1 desc limit 2 offset 1", "8, 7"}, {"select (select x from " + many + " order by y desc, x)", "9"}, {"select count(*), sum(x), count(distinct y) from " + many, "10000 49995000 10"}, {"select count(*) from (select x from " + many + " limit 1234 offset 8000) w", "1234"}, {"select count(*) from (select x from " + many + " limit 9000 offset 8000) w", "2000"}, {"select x from (select x from " + many + " order by x % 1000, x desc limit 2 offset 10) w", "8001, 9001"},
		// There are far too many rows here, but one is enough.
		{"select exists (select 1 from d a, d b, d c, d d, d e, d f, d g, d h)", "true"}, {"select exists (select 1 from d a, d b, d c, d d, d e, d f, d g, d h limit 1 offset 1000)", "true"},
	})
}
