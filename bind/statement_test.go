package bind_test

import (
	"testing"

	"relstore/api"
)

// P17: Query.
func TestQueryStatements(t *testing.T) {
	expectAll(t, []told{
		{"select 1", api.OK}, {"select zz", api.ErrName}, {"select a from t union select a from u order by a limit 1 offset 2", api.OK}, {"select * from nn", api.ErrMissing},
	})
}

// P17: Insert.
func TestInsert(t *testing.T) {
	expectAll(t, []told{
		{"insert into nn values (1)", api.ErrMissing}, {"insert into nn (zz) values (zz)", api.ErrMissing}, {"insert into nn select zz", api.ErrMissing}, {`insert into "T" values (1, 2, 'x', true)`, api.ErrMissing},
		{"insert into t values (1, 2, 'x', true)", api.OK}, {"insert into t values (null, null, null, null)", api.OK}, {"insert into t values (1, 2, 'x', true), (1, 2, 'x', true)", api.OK}, {"insert into t values (1, 2, 'x')", api.ErrForm}, {"insert into t values (1, 2, 'x', true, 1)", api.ErrForm}, {"insert into t values (1)", api.ErrForm}, {"insert into t values (1, 2, 'x', true), (1)", api.ErrForm}, {"insert into t values ('x', 2, 'x', true)", api.ErrType}, {"insert into t values (1, 2, 3, true)", api.ErrType}, {"insert into t values (1, 2, 'x', 4)", api.ErrType}, {"insert into t values (1, 2, 'x', true), (1, 2, true, 'x')", api.ErrType},
		{"insert into t (a) values (1)", api.OK}, {"insert into t (c, a) values ('x', 1)", api.OK}, {"insert into t (c, a) values (1, 'x')", api.ErrType}, {"insert into t (d, c, b, a) values (true, 'x', 2, 1)", api.OK}, {"insert into t (c) values ('x', 1)", api.ErrForm}, {"insert into t (c, a) values ('x')", api.ErrForm}, {"insert into t (a, zz) values (1, 'x')", api.ErrName}, {"insert into t (e) values ('x')", api.ErrName}, {"insert into t (a, a) values (1, 1)", api.ErrExists}, {"insert into t (a, b, a) values (1, 1, 1)", api.ErrExists}, {`insert into v (h, "H") values ('x', true)`, api.OK}, {`insert into v ("H", h) values ('x', true)`, api.ErrType}, {`insert into t ("A") values (1)`, api.ErrName}, {"insert into t (A) values (1)", api.OK},
		{"insert into t (a) values (1 + 2 * 3), (-1), (length('x'))", api.OK}, {"insert into t (c) values ('x' || 'y'), (upper('x')), (cast(1 as text))", api.OK}, {"insert into t (a) values (-null)", api.OK}, {"insert into t (c) values (-null)", api.ErrType},
		// There are no columns to speak of, and no aggregates.
		{"insert into t (a) values (a)", api.ErrName}, {"insert into t (a) values (t.a)", api.ErrName}, {"insert into t (a) values (count(*))", api.ErrForm}, {"insert into t (a) values ((select a))", api.ErrName}, {"insert into t (a) values ((select max(a) from t))", api.OK}, {"insert into t (a) values ((select a from u where e = c))", api.ErrName}, {"insert into t (a) values ((select e from u))", api.ErrType}, {"insert into t (d) values (exists (select 1 from u)), (1 in (select a from u))", api.OK},
		// Row by row, and value by value.
		{"insert into t (a) values (zz), (1, 2)", api.ErrName}, {"insert into t (a) values (1, 2), (zz)", api.ErrForm}, {"insert into t (a) values ('x'), (zz)", api.ErrType}, {"insert into t (a, b) values ('x', zz)", api.ErrType}, {"insert into t (a, b) values (zz, 'x')", api.ErrName}, {"insert into t (a, b) values (zz)", api.ErrForm}, {"insert into t (a, b) values (1, 2), (1, 'x'), (zz, 1)", api.ErrType},
		// The columns come ahead.
		{"insert into t (zz) values (1, 2)", api.ErrName}, {"insert into t (a, a) values (zz)", api.ErrExists}, {"insert into t (a, a, zz) values (1)", api.ErrExists}, {"insert into t (a, zz, a) values (1)", api.ErrName}, {"insert into t (zz, zz) values (1)", api.ErrName}, {"insert into t (zz) select 1 from nn", api.ErrName}, {"insert into t (a, a) select zz", api.ErrExists},
		// A query.
		{"insert into t select * from t", api.OK}, {"insert into t select * from u", api.ErrForm}, {"insert into u select * from u", api.OK}, {"insert into t (c) select e from u", api.OK}, {"insert into t (c) select a from u", api.ErrType}, {"insert into t (c) select null", api.OK}, {"insert into t (a, c) select a from u", api.ErrForm}, {"insert into t (a) select a, e from u", api.ErrForm}, {"insert into t (c, a) select e, a from u", api.OK}, {"insert into t (c, a) select a, e from u", api.ErrType}, {"insert into t (a, c) select a, e from u union select g, h from v order by 1 limit 2", api.OK}, {"insert into t (a) select null union select 'x'", api.ErrType}, {"insert into t (a) select count(*) from t", api.OK}, {"insert into t (a) select zz", api.ErrName}, {"insert into t (a) select t.b", api.ErrName}, {"insert into t (a) select b", api.ErrName}, {"insert into t (a) select zz, 1", api.ErrName}, {"insert into t (a) select 'x', 1", api.ErrForm}, {"insert into t (a) select 1 from nn", api.ErrMissing}, {"insert into t select 1, 2, 3, 4", api.ErrType}, {"insert into t select 1, 2, 'x', 4", api.ErrType}, {"insert into t select 1, null, null, null", api.OK}, {"insert into t select 1, 2, 3", api.ErrForm},
	})
	columns := []told{{"nn", api.ErrName}, {"b", api.ErrExists}}
	firsts(t, "insert into {0} (b, {1}, {2}) values ({3}, {4}, {5}), (1, {6}, 2)", piece{"t", []told{{"nn", api.ErrMissing}}}, piece{"c", columns}, piece{"a", columns},
		piece{"1", append(wrongs(), told{"'x'", api.ErrType}, told{"count(*)", api.ErrForm})}, piece{"'x'", append(wrongs(), told{"1", api.ErrType})}, piece{"2", append(wrongs(), told{"true", api.ErrType})}, piece{"'y'", append(wrongs(), told{"true", api.ErrType})})
	firsts(t, "insert into {0} (b, {1}) select {3} from {2}", piece{"t", []told{{"nn", api.ErrMissing}}}, piece{"c", columns}, piece{"t", []told{{"nn", api.ErrMissing}, {"(select zz) x", api.ErrName}}}, piece{"a, c", []told{{"zz", api.ErrName}, {"1 + 'x'", api.ErrType}, {"1", api.ErrForm}, {"'x', 1, zz", api.ErrName}, {"'x', 'x'", api.ErrType}, {"1, 1", api.ErrType}}})
}

// P17: the number of a row's values comes ahead of the values, row by row.
func TestRowsOfInsert(t *testing.T) {
	firsts(t, "insert into t (a, c) values ({1} {0}), ({3} {2}), (1, 'x')",
		piece{", 'x'", []told{{"", api.ErrForm}, {", 'x', 1", api.ErrForm}}}, piece{"1", append(wrongs(), told{"'x'", api.ErrType})},
		piece{", 'x'", []told{{"", api.ErrForm}, {", 'x', 1", api.ErrForm}}}, piece{"1", append(wrongs(), told{"'x'", api.ErrType})})
}

// P17: Update.
func TestUpdate(t *testing.T) {
	expectAll(t, []told{
		{"update nn set zz = zz where 1", api.ErrMissing}, {"update t set b = 1", api.OK}, {"update t set a = 1, b = 2, c = 'x', d = true", api.OK}, {"update t set a = null, c = null", api.OK}, {"update t set zz = 1", api.ErrName}, {"update t set e = 'x'", api.ErrName}, {"update t set b = 1, b = 2", api.ErrExists}, {"update t set b = 1, a = 2, b = 2", api.ErrExists}, {`update t set "B" = 1`, api.ErrName},
		{"update t set b = 'x'", api.ErrType}, {"update t set c = 1", api.ErrType}, {"update t set d = 1", api.ErrType}, {"update t set b = a + b, c = c || 'x', d = not d and a > b", api.OK}, {"update t set b = t.a where t.b = 1", api.OK}, {"update t set b = u.a", api.ErrName}, {"update t set b = zz", api.ErrName}, {"update t set b = c", api.ErrType}, {"update t set b = max(a)", api.ErrForm}, {"update t set b = (select max(a) from u)", api.OK}, {"update t set b = (select a from u where e = c)", api.OK}, {"update t set b = (select b from u)", api.OK}, {"update t set b = (select x.a from t x where x.b = t.b)", api.OK}, {"update t set b = (select e from u)", api.ErrType}, {"update t set b = (select a, 1 from u)", api.ErrForm},
		{"update t set b = 1 where d", api.OK}, {"update t set b = 1 where c", api.ErrType}, {"update t set b = 1 where zz", api.ErrName}, {"update t set b = 1 where count(*) > 1", api.ErrForm}, {"update t set b = 1 where a in (select a from u where u.a = b)", api.OK}, {"update t set b = 1 where exists (select 1 from u where u.e = t.c)", api.OK}, {"update t set b = 1 where exists (select 1 from t where a = t.b)", api.OK},
		// All columns come ahead of what they become.
		{"update t set b = zz, b = 1", api.ErrExists}, {"update t set b = 'x', zz = 1", api.ErrName}, {"update t set b = zz, c = 1", api.ErrName}, {"update t set b = 'x', c = zz", api.ErrType}, {"update t set b = 'x' where zz", api.ErrType}, {"update t set b = zz where 1", api.ErrName},
	})
	firsts(t, "update {0} set {1} = {3}, {2} = {4} where {5}", piece{"t", []told{{"nn", api.ErrMissing}}}, piece{"b", []told{{"zz", api.ErrName}}}, piece{"c", []told{{"zz", api.ErrName}}},
		piece{"a + 1", append(wrongs(), told{"c", api.ErrType}, told{"max(a)", api.ErrForm})}, piece{"c || 'x'", append(wrongs(), told{"d", api.ErrType}, told{"max(c)", api.ErrForm})}, piece{"b = a", append(wrongs(), told{"a", api.ErrType}, told{"max(a) > 1", api.ErrForm})})
	firsts(t, "update t set b = {1}, {0} = {2}", piece{"a", []told{{"b", api.ErrExists}, {"zz", api.ErrName}}}, piece{"1", wrongs()}, piece{"2", wrongs()})
}

// P17: Delete.
func TestDelete(t *testing.T) {
	expectAll(t, []told{
		{"delete from nn", api.ErrMissing}, {"delete from nn where zz", api.ErrMissing}, {"delete from t", api.OK}, {"delete from t where d", api.OK}, {"delete from t where b = 1 and t.c = 'x'", api.OK}, {"delete from t where b", api.ErrType}, {"delete from t where null", api.OK}, {"delete from t where zz", api.ErrName}, {"delete from t where e = 'x'", api.ErrName}, {"delete from t where u.a = 1", api.ErrName}, {"delete from t where b = 'x'", api.ErrType}, {"delete from t where count(*) > 1", api.ErrForm}, {"delete from t where exists (select 1 from u where u.a = t.a)", api.OK}, {"delete from t where a in (select b + 1 from t where b < 3)", api.OK}, {"delete from t where a in (select a, b from t)", api.ErrForm},
	})
}

// P17: CreateIndex, DropTable, DropIndex.
func TestIndexesAndDrops(t *testing.T) {
	long, longest := run("w", api.MaxName+1), run("w", api.MaxName)
	expectAll(t, []told{
		{"create index j on t (a)", api.OK}, {"create unique index j on t (c, a)", api.OK}, {"create index j on nn (a)", api.ErrMissing}, {"create index j on t (zz)", api.ErrName}, {"create index j on t (e)", api.ErrName}, {"create index j on t (a, a)", api.ErrExists}, {"create index j on t (a, b, c, d)", api.OK}, {"create index j on t (a, b, a, zz)", api.ErrExists}, {"create index j on t (a, b, zz, a)", api.ErrName}, {`create index j on t ("A")`, api.ErrName},
		{"create index i on u (a)", api.ErrExists}, {"create index i on t (a)", api.ErrExists}, {"create index i on nn (zz)", api.ErrExists}, {`create index "I" on t (a)`, api.ErrExists}, {`create unique index "I" on t (a)`, api.ErrExists}, {"create index t on t (a)", api.OK}, {"create index a on t (a)", api.OK},
		{"create index " + long + " on t (a)", api.ErrLarge}, {"create index " + longest + " on t (a)", api.OK}, {"create index " + long + " on nn (zz, zz)", api.ErrLarge}, {`create index "` + run("é", 31) + `" on t (a)`, api.ErrLarge}, {`create index "` + run("é", 30) + `" on t (a)`, api.OK}, {`create index "` + run(`""`, 60) + `" on t (a)`, api.OK},
		{"drop table t", api.OK}, {"drop table v", api.OK}, {"drop table nn", api.ErrMissing}, {`drop table "T"`, api.ErrMissing}, {"drop table i", api.ErrMissing}, {"drop table " + long, api.ErrMissing}, {"drop index i", api.OK}, {`drop index "I"`, api.OK}, {"drop index j", api.ErrMissing}, {"drop index t", api.ErrMissing}, {"drop index " + long, api.ErrMissing},
	})
	firsts(t, "create index {0} on {1} (b, {2}, {3})", piece{"j", []told{{long, api.ErrLarge}, {"i", api.ErrExists}, {`"I"`, api.ErrExists}}}, piece{"t", []told{{"nn", api.ErrMissing}}}, piece{"c", []told{{"zz", api.ErrName}, {"b", api.ErrExists}}}, piece{"a", []told{{"zz", api.ErrName}, {"b", api.ErrExists}}})
	expect(t, nil, "drop table t", api.ErrMissing)
	expect(t, nil, "drop index i", api.ErrMissing)
	expect(t, nil, "create index i on t (a)", api.ErrMissing)
	// A key's columns are no index.
	expect(t, made(t, "create table w (a integer primary key, b integer unique)"), "drop index b", api.ErrMissing)
}

// P17: all others mean something, whatever there is.
func TestOtherStatements(t *testing.T) {
	for _, text := range []string{"begin", "commit", "rollback", "rollback to zz", "savepoint zz", "release zz", "checkpoint", "savepoint " + run("w", 100)} {
		expect(t, made(t, schema), text, api.OK)
		expect(t, nil, text, api.OK)
	}
}
