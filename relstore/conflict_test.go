package relstore_test

import (
	"strings"
	"testing"

	"relstore/api"
	"relstore/disk"
	"relstore/relstore"
)

// reader: what a transaction is told, what it answers, and which commits of another session it conflicts with, and which not.
type reader struct {
	text, told  string
	turns, lets []string
}

// has: the tables of these tests.
const has = `create table t (a integer primary key, b integer, c text unique); insert into t values (1, 1, 'x'), (2, 2, 'y'), (3, 3, null);
create table u (k integer); create index uk on u (k); create table v (p integer, q integer, unique (p, q)); insert into v values (1, 1), (1, null), (null, 1); create table mine (k integer); create table aside (k integer)`

// overlap: a transaction is told something; another session commits something; the first one does something else, and is committed: its answer.
func (x reader) overlap(t *testing.T, other, does string) string {
	t.Helper()
	s := opened(t, disk.New(), 8)
	a, b := s.Session(), s.Session()
	results(t, b, has)
	results(t, a, "begin")
	if got := told(results(t, a, x.text)); got != x.told {
		t.Errorf("%s: %s, not %s", x.text, got, x.told)
	}
	for _, r := range results(t, b, other) {
		if r.Err != api.OK {
			t.Errorf("%s: %s", other, errorName(r.Err))
		}
	}
	if does != "" {
		results(t, a, does)
	}
	return told(results(t, a, "commit"))
}

// meets others, one by one. Whoever has done nothing is never refused.
func (x reader) meets(t *testing.T) {
	t.Helper()
	did := "insert into mine values (1)"
	for _, other := range x.turns {
		if got := x.overlap(t, other, did); got != "Conflict" {
			t.Errorf("%s | %s: %s, not Conflict", x.text, other, got)
		}
	}
	for _, other := range x.lets {
		if got := x.overlap(t, other, did); got != "0" {
			t.Errorf("%s | %s: %s", x.text, other, got)
		}
	}
	if strings.HasPrefix(x.text, "select") && !strings.Contains(x.text, "insert") && len(x.turns) > 0 {
		if got := x.overlap(t, x.turns[0], ""); got != "0" {
			t.Errorf("%s | %s: %s, though nothing was done", x.text, x.turns[0], got)
		}
	}
}

// Definitions: of the tables that a statement names, wherever, and whatever it answers.
func TestDefinitionsRead(t *testing.T) {
	t.Parallel()
	turnsU := []string{"create index x on u (k)", "drop index uk", "begin; drop index uk; create index uk on u (k); commit", "drop table u", "begin; drop table u; create table u (k integer); commit", "begin; create index x on u (k); drop index uk; commit"}
	letsU := []string{
		"create table w (a integer)", "create index x on aside (k)", "begin; drop table aside; create table aside (p integer); commit", "drop table aside", "begin; create index x on u (k); drop index x; commit", "begin; drop table u; rollback", "begin; savepoint s; drop index uk; rollback to s; commit", "create table \"U\" (a integer)", "create table uu (k integer)", "checkpoint",
	}
	for _, text := range []string{
		"select 1 where false and exists (select 1 from u)", "select (select max(k) from u where false)", "select 1 where 1 in (select k from u where 1 = 2)", "select a from t where false group by a having a = (select k from u where false)", "select 1 where false order by (select k from u where false)", "select p from v where false union select k from u where false",
		"select count(*) from (select k from u where false) as q where false", "select 1 from v x join v y on x.p = (select k from u where false) where false", "select case when false then (select k from u where false) end where false", "select max(p + (select k from u where false)) from v where false", "select 1 from v where false group by (select k from u where false)",
		"insert into v select k, k from u where false", "update v set p = (select k from u where false) where false", "delete from v where p in (select k from u where false) and false", "delete from u where false", "update u set k = 1 where false", "insert into u select 1 where false",
	} {
		reader{text, told(results(t, probe(t), text)), turnsU, letsU}.meets(t)
	}
	// Refused by what they mean: no rows, but the definitions.
	rows := append(letsU, "insert into u values (1)", "insert into t values (7, 7, 'u')", "delete from t")
	for _, x := range []pair{
		{"select z from u", "Name"}, {"select k from u where k", "Type"}, {"select k from t, u, zz", "Missing"}, {"select 1 from zz where exists (select 1 from u)", "Missing"}, {"insert into u values ('x')", "Type"}, {"insert into u (z) values (1)", "Name"}, {"insert into zz values ((select k from u))", "Missing"}, {"update u set z = 1", "Name"}, {"delete from u where max(k) = 1", "Form"}, {"create table u (k integer)", "Exists"}, {"select (select k, k from u)", "Form"}, {"insert into t values ((select count(*) from u), 1)", "Form"},
	} {
		reader{x.text, x.want, turnsU, rows}.meets(t)
	}
	// Whether there is a table or not.
	for _, x := range []pair{{"select * from w", "Missing"}, {"insert into w values (1)", "Missing"}, {"drop table w", "Missing"}, {"update w set a = 1", "Missing"}, {"delete from w", "Missing"}, {"create table w (a integer)", "0"}, {"select 1 from zz where exists (select 1 from w)", "Missing"}, {"savepoint s; create table w (a integer); rollback to s", "0 0 0"}} {
		reader{x.text, x.want, []string{"create table w (a integer)", "create table w (b text); insert into w values ('x')"}, []string{"create table ww (a integer)", "create index w on t (a)", "begin; create table w (a integer); drop table w; commit", "delete from t", "drop table u"}}.meets(t)
	}
	long := `"` + run("w", 60) + `"`
	reader{"select * from " + long, "Missing", []string{"create table " + long + " (a integer)"}, []string{`create table "` + run("w", 59) + `" (a integer)`}}.meets(t)
	reader{`select * from "` + run("w", 900) + `"`, "Missing", nil, []string{"create table " + long + " (a integer)"}}.meets(t)
}

// probe: a session with the tables of these tests.
func probe(t *testing.T) *relstore.Session {
	t.Helper()
	c := fresh(t)
	results(t, c, has)
	return c
}

// What stands in a CHECK is not read; CREATE INDEX and DROP INDEX read all definitions.
func TestDefinitionsOfChecksAndIndexes(t *testing.T) {
	t.Parallel()
	for _, x := range []pair{{"create table w (a integer check (exists (select 1 from u)))", "Form"}, {"create table w (a integer check (a in (select k from u)))", "Form"}, {"create table w (a integer, check ((select k from u) = 1))", "Form"}} {
		reader{x.text, x.want, []string{"create table w (a integer)"}, []string{"create index x on u (k)", "drop table u"}}.meets(t)
	}
	any := []string{"create table w (a integer)", "drop table v", "drop table u", "create index x on v (q)", "create index x on t (b)", "drop index uk", "begin; drop index uk; create index uk on u (k); commit", "begin; drop table u; create table u (k integer); create index uk on u (k); commit"}
	none := []string{"insert into u values (1)", "insert into v values (5, 5)", "begin; create table w (a integer); drop table w; commit", "begin; drop table v; rollback"}
	rowsOfT := []string{"update t set b = 9 where a = 1", "delete from t where a = 3", "insert into t values (9, 9, 'z')"}
	reader{"drop index uk", "0", any[:5], append(none, rowsOfT...)}.meets(t)
	reader{"drop index zz", "Missing", any, append(none, rowsOfT...)}.meets(t)
	reader{"savepoint s; drop index uk; rollback to s", "0 0 0", any, append(none, rowsOfT...)}.meets(t)
	reader{"create index x on zz (k)", "Missing", any, append(none, rowsOfT...)}.meets(t)
	reader{"create index x on t (z)", "Name", any, append(none, rowsOfT...)}.meets(t)
	reader{"create index uk on t (b)", "Exists", any, append(none, rowsOfT...)}.meets(t)
	reader{"create index x on t (b)", "0", append(any, rowsOfT...), append(none, "update t set b = b")}.meets(t)
	reader{"create unique index x on v (p)", "Unique", append([]string{"insert into v values (null, null)"}, any...), rowsOfT}.meets(t)
	reader{"savepoint s; insert into v values (1, 2)", "0 1", []string{"insert into v values (1, 2)"}, rowsOfT}.meets(t)
	reader{"insert into t values (4, 1, null)", "1", []string{"create index x on t (b)"}, none}.meets(t)
	reader{"insert into v values (2, 2)", "1", nil, rowsOfT}.meets(t)
	reader{"drop table u", "0", []string{"insert into u values (1)", "create index x on u (k)", "drop table u", "drop index uk"}, rowsOfT}.meets(t)
	reader{"drop table t", "0", rowsOfT, []string{"insert into u values (1)", "create table w (a integer)", "update t set c = c"}}.meets(t)
	reader{"savepoint s; drop table t; create table t (a integer); rollback to s", "0 0 0 0", rowsOfT, nil}.meets(t)
}

// Refused by their rows: an index that is not made reads all rows.
func TestRefusedIndexReads(t *testing.T) {
	reader{"insert into v values (2, 1)", "1", nil, []string{"update v set q = null where p is null"}}.meets(t)
	reader{"create unique index x on t (c); create unique index y on v (q)", "0 Unique", []string{"insert into v values (7, 7)", "delete from v where p = 1 and q is null", "insert into t values (5, 5, null)"}, []string{"insert into u values (1)", "update v set p = p"}}.meets(t)
}

// Rows: those that meet a source's own conditions, ahead of a commit or behind it.
func TestRowsRead(t *testing.T) {
	t.Parallel()
	for _, x := range []reader{
		{"select * from t", "[1 1 'x'][2 2 'y'][3 3 null]", []string{"update t set b = 9 where a = 3", "insert into t values (9, 9, null)", "delete from t where a = 1", "begin; delete from t where a = 1; insert into t values (1, 1, 'x'); commit"}, []string{"update t set a = a, b = b", "begin; insert into t values (9, 9, null); delete from t where a = 9; commit", "begin; update t set b = 9; update t set b = a; commit", "insert into u values (1)", "begin; delete from t; rollback"}},
		{"select a from t where a = 1", "[1]", []string{"update t set b = 9 where a = 1", "delete from t where a = 1", "update t set a = 9 where a = 1", "begin; update t set a = 9 where a = 1; update t set a = 1 where a = 2; commit", "begin; delete from t; commit"}, []string{"update t set b = 9 where a > 1", "insert into t values (9, 1, null)", "update t set a = 9 where a = 2", "begin; update t set a = 1 where a = 1; commit"}},
		{"select a from t where a = 9", "-", []string{"insert into t values (9, 9, null)", "update t set a = 9 where a = 1", "begin; insert into t values (9, 9, null); commit; delete from t where a = 9"}, []string{"begin; insert into t values (9, 9, null); delete from t where a = 9; commit", "begin; update t set a = 9 where a = 1; update t set a = 8 where a = 9; commit", "insert into t values (8, 9, null)"}},
		// Parts that must all be true.
		{"select a from t where b > 1 and c = 'x'", "-", []string{"update t set b = 2 where a = 1", "begin; delete from t where a = 1; update t set c = 'x' where a = 2; commit"}, []string{"update t set c = 'z' where a = 2", "insert into t values (9, 9, 'z')", "delete from t where a = 1", "delete from t where a = 3"}},
		{"select a from t where (b > 1 and (c = 'y' and a < 9)) and true", "[2]", []string{"delete from t where a = 2", "update t set a = 8 where a = 2"}, []string{"delete from t where a = 3", "insert into t values (9, 9, 'q')"}},
		{"select a from t where b > 2 or c = 'x'", "[1][3]", []string{"insert into t values (9, 9, 'q')", "delete from t where a = 1"}, []string{"delete from t where a = 2", "insert into t values (9, 0, 'q')"}},
		{"select a from t where not (b <= 2 and c = c)", "[3]", []string{"insert into t values (9, 9, 'q')"}, []string{"delete from t where a = 1", "insert into t values (9, null, 'q')", "insert into t values (9, 2, null)"}},
		{"select a from t where null", "-", nil, []string{"delete from t"}},
		{"select a from t where 1 = 2", "-", nil, []string{"delete from t"}},
		{"select a from t where 1 = 1", "[1][2][3]", []string{"delete from t where a = 3"}, nil},
		{"select a from t where b is null", "-", []string{"insert into t values (9, null, null)", "update t set b = null where a = 1"}, []string{"insert into t values (9, 9, null)", "delete from t"}},
		{"select a from t where length(c) * 2 = 2 and b between 1 and 2 and c like '_' and a in (1, 3) and case a when 1 then true else false end and coalesce(b, 0) % 2 = 1 and cast(a as text) = '1' and -a < 0", "[1]", []string{"delete from t where a = 1"}, []string{"delete from t where a > 1", "insert into t values (4, 1, 'q')", "insert into t values (5, 2, 'w')"}},
		// Limits and orders do not matter.
		{"select a from t where a > 1 order by b limit 0", "-", []string{"delete from t where a = 3"}, []string{"delete from t where a = 1"}},
		{"select distinct 1 from t where b < 3 group by c having false", "-", []string{"delete from t where a = 1"}, []string{"delete from t where a = 3"}},
		// What is said of other sources, or in a query, or further out, is no condition of its own.
		{"select count(*) from t x, t y where x.a = 1 and y.a = 2", "[1]", []string{"delete from t where a = 1", "delete from t where a = 2"}, []string{"delete from t where a = 3", "insert into t values (9, 9, null)"}},
		{"select count(*) from t x, t y where x.a = 1 and y.a = x.b", "[1]", []string{"delete from t where a = 3", "insert into t values (9, 9, null)"}, nil},
		{"select count(*) from t, u where a = 1 and k = 1", "[0]", []string{"insert into u values (1)", "delete from t where a = 1"}, []string{"insert into u values (2)", "delete from t where a = 2"}},
		{"select count(*) from t, u where a = k and b < 2 and k > 5", "[0]", []string{"insert into u values (6)", "delete from t where a = 1"}, []string{"insert into u values (5)", "delete from t where a = 2"}},
		{"select count(*) from t where a = 1 and b in (select k from u)", "[0]", []string{"insert into u values (7)", "delete from t where a = 1"}, []string{"delete from t where a = 2"}},
		{"select count(*) from t where b in (select k from u)", "[0]", []string{"delete from t where a = 2"}, nil},
		{"select count(*) from t where exists (select 1 from u where k = a and k < 5 and t.b = 1)", "[0]", []string{"insert into u values (4)", "delete from t where a = 2"}, []string{"insert into u values (5)"}},
		{"select count(*) from t where exists (select 1 from u where t.b = 1)", "[0]", []string{"insert into u values (4)"}, nil},
		{"select count(*) from t where a = 1 and (a = 2 or exists (select 1 from u where k = 3))", "[0]", []string{"insert into u values (3)", "delete from t where a = 1"}, []string{"insert into u values (4)", "delete from t where a = 2"}},
		{"select count(*) from t where a = 1 and exists (select 1 from t t where a = 2)", "[1]", []string{"delete from t where a = 1", "delete from t where a = 2"}, []string{"delete from t where a = 3"}},
		{"select count(*) from (select a from t where a < 3) as q where q.a = 1", "[1]", []string{"delete from t where a = 2"}, []string{"delete from t where a = 3"}},
		{"select count(*) from (select a, b from t) as t, u where t.b = 1 and k = 2", "[0]", []string{"delete from t where a = 3", "insert into u values (2)"}, []string{"insert into u values (1)"}},
		{"select a from t where a = 1 union select k from u where k = 2", "[1]", []string{"delete from t where a = 1", "insert into u values (2)"}, []string{"delete from t where a = 2", "insert into u values (1)"}},
		{"select (select max(b) from t where a < 2) from v where p = 1", "[1][1]", []string{"delete from t where a = 1", "insert into v values (1, 7)"}, []string{"delete from t where a = 2", "insert into v values (2, 7)"}},
		// Joins: ON is no condition of its own; of the source of a LEFT JOIN all rows are read.
		{"select count(*) from u join t on a = 1", "[0]", []string{"delete from t where a = 3"}, nil},
		{"select count(*) from u join t on a = 1 where a = 2 and k = 5", "[0]", []string{"delete from t where a = 2", "insert into u values (5)"}, []string{"delete from t where a = 3", "insert into u values (4)"}},
		{"select count(*) from u left join t on a = 1 where a = 2 and k = 5", "[0]", []string{"delete from t where a = 3", "insert into u values (5)"}, []string{"insert into u values (4)"}},
		{"select count(*) from u left join t on a = 1 where false", "[0]", []string{"delete from t where a = 3"}, []string{"insert into u values (4)"}},
		{"select count(*) from t x left join u on k = x.a join t y on y.a = 2 where x.a = 1 and y.a = 2", "[1]", []string{"delete from t where a = 1", "delete from t where a = 2", "insert into u values (77)"}, []string{"delete from t where a = 3"}},
		{"select count(*) from v left join (select a from t where a = 1) as q on q.a = p where p = 1", "[2]", []string{"delete from t where a = 1", "insert into v values (1, 5)"}, []string{"delete from t where a = 2", "insert into v values (5, 5)"}},
		{"select count(*) from t where a = 1 and exists (select 1 from v left join u on k = 1 where p = 3)", "[0]", []string{"insert into u values (9)", "insert into v values (3, 3)"}, []string{"insert into v values (4, 3)", "delete from t where a = 2"}},
	} {
		x.meets(t)
	}
}

// INSERT, UPDATE, DELETE: what their queries read, which rows they turn, and the keys of what comes.
func TestRowsReadByChanges(t *testing.T) {
	t.Parallel()
	for _, x := range []reader{
		{"insert into u select a from t where a < 2", "1", []string{"delete from t where a = 1", "insert into t values (0, 0, null)"}, []string{"delete from t where a = 2", "insert into u values (1)"}},
		{"insert into u values ((select max(a) from t where b < 2)), (1)", "2", []string{"update t set b = 0 where a = 3", "delete from t where a = 1"}, []string{"delete from t where a = 3", "insert into u values (5)", "delete from u"}},
		// Keys: rows with the same values, none of them null.
		{"insert into t values (9, 9, 'z')", "1", []string{"insert into t values (9, 8, null)", "insert into t values (8, 8, 'z')", "update t set a = 9 where a = 1", "update t set c = 'z' where a = 3", "insert into t values (9, 1, null); delete from t where a = 9"}, []string{"insert into t values (8, 9, 'w')", "delete from t", "insert into t values (8, 9, null)", "begin; insert into t values (9, 1, null); delete from t where a = 9; commit"}},
		{"insert into t values (9, 9, null)", "1", []string{"insert into t values (9, 8, null)"}, []string{"insert into t values (8, 8, null)", "update t set c = null"}},
		{"insert into t (a) values (7), (8)", "2", []string{"insert into t values (7, 8, null)", "insert into t values (8, 8, null)"}, []string{"insert into t values (9, 8, null)"}},
		{"insert into v values (5, 5), (5, null), (null, 6)", "3", []string{"insert into v values (5, 5)"}, []string{"insert into v values (5, 6), (6, 5), (5, null), (null, 6), (null, null)", "delete from v"}},
		{"insert into u values (1)", "1", nil, []string{"insert into u values (1)", "delete from u"}},
		// Refused by a key: all keys of all rows were read.
		{"insert into t values (1, 9, 'q'), (9, 9, 'w')", "Unique", []string{"update t set b = 9 where a = 1", "delete from t where a = 1", "insert into t values (8, 8, 'w')", "insert into t values (9, 8, null)", "insert into t values (8, 8, 'q')"}, []string{"update t set b = 9 where a = 2", "insert into t values (8, 8, 'p')"}},
		{"insert into t values (8, 9, 'x'), (9, 9, null)", "Unique", []string{"update t set b = 9 where a = 1", "insert into t values (8, 8, null)", "insert into t values (9, 8, null)"}, []string{"delete from t where a = 2", "insert into t values (7, 8, null)"}},
		{"insert into t values (8, 9, 'q'), (8, 9, 'w')", "Unique", []string{"insert into t values (8, 8, null)", "insert into t values (7, 8, 'w')"}, []string{"delete from t"}},
		{"update t set a = 2 where a = 1", "Unique", []string{"update t set b = 9 where a = 2", "update t set b = 9 where a = 1"}, []string{"update t set b = 9 where a = 3"}},
		// Refused by null, a check or room: no keys were read.
		{"insert into t values (9, 9, 'q'), (null, 9, 'w')", "Null", nil, []string{"insert into t values (9, 9, 'q')", "insert into t values (8, 9, 'w')", "delete from t"}},
		{"insert into t values (9, 9, 'q'), (8, 8, '" + run("z", 200) + "')", "Large", nil, []string{"insert into t values (9, 9, 'q')", "insert into t values (8, 9, 'w')"}},
		{"create table w (a integer unique check (a > 0)); insert into w values (1), (0)", "0 Check", []string{"create table w (a integer)"}, []string{"delete from t"}},
		{"insert into t select k, 1, 'q' from u where k is null union all select null, 1, 'q'", "Null", []string{"insert into u values (null)"}, []string{"insert into u values (1)", "insert into t values (9, 9, 'q')"}},
		{"update t set a = null where b = 1", "Null", []string{"update t set b = 1 where a = 2", "delete from t where a = 1"}, []string{"delete from t where a = 2"}},
		{"update t set c = '" + run("z", 200) + "', a = 9 where b = 1", "Large", []string{"delete from t where a = 1"}, []string{"insert into t values (9, 9, null)"}},
		// UPDATE and DELETE read what meets the parts without queries.
		{"update t set b = 9 where a = 1", "1", []string{"update t set b = 5 where a = 1", "update t set c = 'q' where a = 1", "delete from t where a = 1"}, []string{"delete from t where a = 2", "insert into t values (9, 9, null)", "update t set b = b"}},
		{"update t set b = 9", "3", []string{"insert into t values (9, 9, null)"}, []string{"update t set b = b", "insert into u values (1)"}},
		{"update t set b = 9 where a = 7", "0", []string{"insert into t values (7, 7, null)"}, []string{"insert into t values (8, 7, null)", "delete from t"}},
		{"update t set a = 9, c = 'q' where a = 1", "1", []string{"insert into t values (9, 9, null)", "insert into t values (8, 9, 'q')"}, []string{"insert into t values (8, 9, 'w')"}},
		{"update t set c = null where c = 'x'", "1", []string{"update t set b = 5 where a = 1"}, []string{"insert into t values (9, 9, null)", "delete from t where c is null"}},
		{"update t set b = (select count(*) from u where k > 3) where a = 1 and b in (select p from v where q = 1)", "1", []string{"insert into u values (4)", "insert into v values (7, 1)", "delete from t where a = 1"}, []string{"insert into u values (3)", "insert into v values (7, 2)", "delete from t where a = 2"}},
		{"update t set b = 1 where b > 2 and a < (select 9) and exists (select 1 from u where k = t.a)", "0", []string{"insert into u values (77)", "delete from t where a = 3"}, []string{"delete from t where a = 1"}},
		{"delete from t where a = 1", "1", []string{"update t set b = 5 where a = 1", "delete from t where a = 1"}, []string{"delete from t where a = 2", "insert into t values (9, 9, 'q')"}},
		{"delete from t", "3", []string{"insert into t values (9, 9, 'q')"}, []string{"update t set b = b", "delete from u"}},
		{"delete from t where b > 100 and c = 'x'", "0", []string{"update t set b = 101 where a = 1"}, []string{"update t set b = 101 where a = 2", "delete from t where a = 1"}},
		{"delete from t where b > 100 and a in (select k from u)", "0", []string{"insert into u values (7)", "update t set b = 101 where a = 2"}, []string{"delete from t"}},
		{"delete from v where p = 1 and q = 1", "1", []string{"delete from v where p = 1 and q = 1"}, []string{"insert into v values (2, 1)", "delete from v where q is null"}},
		// What is read stays read.
		{"savepoint s; insert into t values (9, 9, null); rollback to s", "0 1 0", []string{"insert into t values (9, 8, null)"}, []string{"delete from t"}},
		{"savepoint s; select * from t where a = 1; rollback to s; release s", "0 [1 1 'x'] 0 0", []string{"delete from t where a = 1"}, []string{"delete from t where a = 2"}},
		{"select a from t where a = 1; select a from t where a = 1; select a from t where a = 2", "[1] [1] [2]", []string{"delete from t where a = 1", "delete from t where a = 2"}, []string{"delete from t where a = 3"}},
		{"select a from t where a = 1; select count(*) from t; select a from t where a = 2; insert into t values (7, 7, 'p')", "[1] [3] [2] 1", []string{"delete from t where a = 3", "insert into t values (9, 9, null)"}, []string{"update t set b = b"}},
	} {
		x.meets(t)
	}
}

// Which commits count as those of a transaction that has done something.
func TestDoneAndStands(t *testing.T) {
	t.Parallel()
	did := []string{
		"update t set b = b where a = 1", "update t set b = 9", "insert into mine values (1)", "delete from t where a = 3", "create table w (a integer)", "drop table v", "drop table mine", "create index x on t (b)", "drop index uk",
		"insert into mine values (1); delete from mine", "create table w (a integer); drop table w", "drop table v; create table v (p integer)", "savepoint s; insert into mine values (1); release s", "insert into mine values (1); savepoint s; insert into mine values (2); rollback to s",
	}
	not := []string{
		"update t set b = b where a = 99", "delete from mine", "insert into mine select 1 where false", "insert into t values (1, 1, null)", "savepoint s; update t set b = 9; drop table v; create table w (a integer); drop index uk; create index x on t (b); insert into mine values (1); rollback to s", "select * from t", "savepoint s", "create table t (a integer)", "checkpoint",
	}
	for _, text := range did {
		x := reader{"select count(*) from t", "[3]", nil, nil}
		if got := x.overlap(t, "update t set b = 7 where a = 2", text); got != "Conflict" {
			t.Errorf("%s: %s", text, got)
		}
		if got := x.overlap(t, "update t set b = b; delete from t where a = 99", text); got != "0" {
			t.Errorf("%s: %s", text, got)
		}
	}
	for _, text := range not {
		if got := (reader{"select count(*) from t", "[3]", nil, nil}).overlap(t, "update t set b = 7 where a = 2; drop table v", text); got != "0" {
			t.Errorf("%s: %s", text, got)
		}
	}
}

// Statements by themselves, between and within transactions of other sessions.
func TestAloneBetweenTransactions(t *testing.T) {
	plays(t, "alone",
		pair{"c:" + has, "0 3 0 0 0 3 0 0"},
		pair{"a:begin; select b from t where a = 1; update t set b = 10 where a = 1", "0 [1] 1"},
		pair{"b:begin; select b from t where a = 2; update t set b = 20 where a = 2", "0 [2] 1"},
		// They see nothing of the others, and are never refused for them.
		pair{"c:select b from t; update t set b = b + 100 where a = 3; select b from t", "[1][2][3] 1 [1][2][103]"},
		pair{"a:commit", "0"}, pair{"c:update t set b = b + 1 where a = 1; select b from t", "1 [2][11][103]"}, pair{"b:commit", "0"}, pair{"c:select b from t where a = 1; select b from t where a = 2", "[11] [20]"},
	)
	plays(t, "both may not",
		pair{"c:" + has, "0 3 0 0 0 3 0 0"},
		pair{"a:begin; insert into t values (9, 1, null)", "0 1"}, pair{"b:begin; insert into t values (9, 2, null)", "0 1"}, pair{"c:insert into t values (8, 3, null)", "1"},
		pair{"a:commit", "0"}, pair{"c:insert into t values (9, 3, null)", "Unique"}, pair{"b:commit", "Conflict"}, pair{"b:insert into t values (9, 4, null)", "Unique"}, pair{"c:select b from t where a > 7", "[1][3]"},
	)
	plays(t, "rows without keys",
		pair{"c:create table t (a integer); create index i on t (a)", "0 0"},
		pair{"a:begin; insert into t values (1), (2)", "0 2"}, pair{"b:begin; insert into t values (1), (3)", "0 2"}, pair{"c:insert into t values (1)", "1"}, pair{"b:commit", "0"}, pair{"a:commit", "0"},
		pair{"c:select * from t; select count(*) from t where a = 1", "[1][1][1][2][3] [3]"},
	)
	plays(t, "tables of two",
		pair{"a:begin; create table t (a integer primary key); insert into t values (1)", "0 0 1"}, pair{"b:begin; create table u (a integer primary key); insert into u values (2)", "0 0 1"}, pair{"c:create table v (a integer unique); insert into v values (3)", "0 1"},
		pair{"a:commit", "0"}, pair{"b:commit", "0"}, pair{"c:select * from t; select * from u where a = 2; select * from v where a = 3", "[1] [2] [3]"},
	)
}
