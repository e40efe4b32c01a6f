package relstore_test

import (
	"strings"
	"testing"

	"relstore/api"
	"relstore/disk"
	"relstore/relstore"
)

// keeps: ways in which a crash may keep what waited.
func keeps() [][]int {
	return [][]int{nil, {1}, {2, 1}, {0, 1}, {1, 0}, {1, 1, 2}, {0, 2, 1}}
}

// script: statements of each kind that turns something, and some that are refused.
func script() []string {
	return []string{
		"create table t (a integer primary key, b text, c integer default 3 check (c > 0))",
		"insert into t values (1, 'one', 1), (2, 'two', 2), (3, null, 2)",
		"create index i on t (c)",
		"insert into t (a, b) values (4, " + quoted(900) + ")",
		"insert into t values (5, 'x', 0)",
		"create table u (a integer, b integer, unique (a, b))",
		"insert into u select a, c from t where c = 2",
		"update t set a = a + 1, c = c + 1 where c < 3",
		"update t set a = 1",
		"create unique index j on u (b)",
		"create unique index j on u (a)",
		"insert into t select a + 100, 'y', 7 from t",
		"delete from t where a = 101 or b = 'one'",
		"drop index i",
		"checkpoint",
		"update t set b = " + quoted(600) + " where a > 100",
		"drop table u",
		"create table u (z text)",
		"insert into u select b from t",
		"delete from t",
		"drop table t",
		"create table t (y boolean)",
		"insert into t values (true), (null)",
	}
}

// state: all that a store tells of the tables and indexes of the script. Nothing is done: each statement is a query, or refused.
func state(t testing.TB, s *relstore.Store) string {
	t.Helper()
	var l []string
	for _, text := range []string{
		"select * from t", "select * from u", "select a from t where c = 2", "select a from t where a = 102", "select * from u where a = 2 and b = 2", "select b from u where a = 3",
		"create index i on t (nothing)", "create index j on u (nothing)", "create index i on nothing (a)", "create index j on nothing (a)",
		"insert into t (a, c) values (1000, 0)", "insert into t (b) values ('x')", "insert into t (a) select a from t where a > 0", "insert into u (a, b) values (9, 9), (9, 9)",
	} {
		r := results(t, s.Session(), text)
		l = append(l, told(r))
		if r[0].Kind != api.Query && r[0].Err == api.OK && r[0].Count > 0 {
			t.Fatalf("%s: %v", text, r)
		}
	}
	return strings.Join(l, "\n")
}

// states behind each statement of the script, ahead of the first one too. A store that is opened anew tells the same.
func states(t *testing.T) []string {
	d := disk.New()
	s := opened(t, d, 8)
	l := []string{state(t, s)}
	for _, text := range script() {
		results(t, s.Session(), text)
		l = append(l, state(t, s))
		if again := state(t, opened(t, twin(t, d), 11)); again != l[len(l)-1] {
			t.Fatalf("%s: opened anew\n%s\nnot\n%s", short(text), again, l[len(l)-1])
		}
	}
	return l
}

func TestOpenedAnew(t *testing.T) {
	l := states(t)
	turned := 0
	for i := range l[1:] {
		if l[i] != l[i+1] {
			turned++
		}
	}
	if turned < 17 {
		t.Errorf("just %d statements have done something", turned)
	}
	// The same store with the same disk, time and again.
	d := disk.New()
	for i, text := range script() {
		s := opened(t, d, 8+i)
		results(t, s.Session(), text)
		if got := state(t, s); got != l[i+1] {
			t.Fatalf("%s:\n%s\nnot\n%s", short(text), got, l[i+1])
		}
	}
}

// downAt: the script, with a disk that goes down behind so many operations: how many statements were done, and whether it went down.
func downAt(t *testing.T, d *disk.Disk, n int) (int, bool) {
	t.Helper()
	s := opened(t, d, 8)
	d.Fail(n)
	for i, text := range script() {
		r := results(t, s.Session(), text)[0]
		if r.Err != api.ErrDown {
			continue
		}
		if r.Count != 0 || len(r.Rows) > 0 || len(r.Columns) > 0 {
			t.Errorf("%+v", r)
		}
		isDown(t, s)
		return i, true
	}
	return len(script()), false
}

// isDown: a store whose disk is down refuses all that needs it.
func isDown(t *testing.T, s *relstore.Store) {
	t.Helper()
	for _, text := range []string{"select * from t", "insert into t values (1)", "update t set a = 1", "delete from t", "create table w (a integer)", "drop table t", "create index k on t (a)", "drop index i", "checkpoint", "select * from nothing"} {
		does(t, s.Session(), text, "Down")
	}
}

// Behind each operation of the disk, and with each way of keeping: what was committed is there, and of the statement in which it went down all or nothing.
func TestCrashes(t *testing.T) {
	t.Parallel()
	l := states(t)
	for n := 0; ; n++ {
		down := false
		for _, keep := range keeps() {
			d := disk.New()
			var done int
			done, down = downAt(t, d, n)
			if !down {
				break
			}
			d.Crash(keep)
			s := opened(t, d, 9)
			got := state(t, s)
			if got != l[done] && got != l[done+1] {
				t.Fatalf("behind %d operations, in %s, keeping %v:\n%s\nnot\n%s\nor\n%s", n, short(script()[done]), keep, got, l[done], l[done+1])
			}
			if again := state(t, opened(t, twin(t, d), 8)); again != got {
				t.Fatalf("behind %d operations: another disk tells\n%s\nnot\n%s", n, again, got)
			}
			goesOn(t, s, l, done, got)
		}
		if !down {
			if n < 60 {
				t.Errorf("just %d operations", n)
			}
			return
		}
	}
}

// goesOn: the rest of the script upon what a crash has left.
func goesOn(t *testing.T, s *relstore.Store, l []string, done int, got string) {
	t.Helper()
	if got != l[done] {
		done++
	}
	for _, text := range script()[done:min(done+3, len(script()))] {
		results(t, s.Session(), text)
		done++
	}
	if now := state(t, s); now != l[done] {
		t.Fatalf("going on:\n%s\nnot\n%s", now, l[done])
	}
}

// A disk that goes down while a store is opened: there is none, and what was there stays.
func TestOpenThatGoesDown(t *testing.T) {
	for n := range 20 {
		d := disk.New()
		d.Fail(n)
		s, e := relstore.Open(d, 8)
		if e == api.OK {
			if n < 5 {
				t.Errorf("opened with %d operations", n)
			}
			break
		}
		if s != nil || e != api.ErrDown {
			t.Fatal(s, e)
		}
		if s, e := relstore.Open(d, 8); s != nil || e != api.ErrDown {
			t.Fatal(s, e)
		}
		for _, keep := range keeps() {
			does(t, opened(t, crashed(t, n, keep), 8).Session(), "create table t (a integer); insert into t values (1); select * from t", "0 1 [1]")
		}
	}
}

// crashed: a new disk that went down behind so many operations of Open.
func crashed(t *testing.T, n int, keep []int) *disk.Disk {
	t.Helper()
	d := disk.New()
	d.Fail(n)
	if _, e := relstore.Open(d, 8); e != api.ErrDown {
		t.Fatal(e)
	}
	d.Crash(keep)
	return d
}

// A disk that goes down by itself, beside the store.
func TestDiskThatIsDown(t *testing.T) {
	d := disk.New()
	s := opened(t, d, 8)
	c := s.Session()
	digits(t, c)
	does(t, c, "create table t (a integer, b text); insert into t select x.a, '"+run("z", 200)+"' from n x, n y", "0 100")
	d.Fail(0)
	d.Sync(0)
	// More rows than are in memory: they cannot be read.
	does(t, c, "select count(*) from t", "Down")
	does(t, c, "insert into n values (1)", "Down")
	isDown(t, s)
	d.Crash(nil)
	does(t, opened(t, d, 8).Session(), "select count(*) from t; select count(*) from n", "[100] [10]")
}

// A refused statement does nothing on the disk, and neither does a query.
func TestOperations(t *testing.T) {
	d := disk.New()
	c := opened(t, d, 8).Session()
	does(t, c, "create table t (a integer primary key check (a > 0)); insert into t values (1), (2)", "0 2")
	before := d.Count()
	for _, p := range []pair{
		{"select * from t", "[1][2]"}, {"insert into t values (3), (1)", "Unique"}, {"insert into t values (null)", "Null"}, {"update t set a = a - 1", "Check"}, {"update t set a = a + 1 where a = 1", "Unique"},
		{"delete from t where a > 5", "0"}, {"insert into t select a from t where false", "0"}, {"create table t (b text)", "Exists"}, {"drop index i", "Missing"}, {"update t set a = a", "2"},
	} {
		does(t, c, p.text, p.want)
		if d.Count() != before {
			t.Fatalf("%s: %d operations", p.text, d.Count()-before)
		}
	}
	does(t, c, "insert into t values (3)", "1")
	if d.Count() == before || d.Waits() > 0 {
		t.Error("what was committed waits")
	}
}

// Sessions of one store see what was committed by any of them.
func TestSessions(t *testing.T) {
	s := opened(t, disk.New(), 8)
	a, b := s.Session(), s.Session()
	if a == nil || a == b {
		t.Fatal("no sessions")
	}
	does(t, a, "create table t (a integer)", "0")
	does(t, b, "insert into t values (1); create index i on t (a)", "1 0")
	does(t, a, "select * from t where a = 1; drop index i", "[1] 0")
	does(t, b, "drop index i", "Missing")
	does(t, b, "drop table t", "0")
	does(t, a, "select * from t", "Missing")
	if s.Versions() != 0 {
		t.Errorf("%d versions", s.Versions())
	}
}

// Texts with which a table is named, in any part of a statement.
func TestTablesAreFoundEverywhere(t *testing.T) {
	c := fresh(t)
	does(t, c, "create table a (x integer); create table b (x integer); insert into a values (1), (2); insert into b values (2), (3)", "0 0 2 2")
	for _, q := range []string{
		"select x from a where x in (select x from b)",
		"select a.x from a join b on a.x = b.x and exists (select 1 from b c where c.x > a.x)",
		"select q.x from (select x from a where x > 1) as q left join (select x from b) as r on r.x = q.x",
		"select x from a group by x having x = (select min(x) from b)",
		"select x from a intersect select x from b",
		"select x from a order by (select count(*) from b where b.x = a.x) desc limit 1",
		"select case when 1 in (select x from b) then 1 else coalesce((select min(x) from b), 3) end",
		"select count(*) from a group by (select max(x) from b)",
		"select max(x) from a where x between (select min(x) from a) and -(select -max(x) from b)",
	} {
		does(t, c, q, "[2]")
		does(t, c, "create table r (x integer); insert into r "+q+"; select * from r; drop table r", "0 1 [2] 0")
		does(t, c, "create table r (x integer); insert into r values (("+q+")), (1 + ("+q+")); select * from r; drop table r", "0 2 [2][3] 0")
		does(t, c, "update a set x = ("+q+") where x = ("+q+"); delete from a where x = ("+q+") + 1; select * from a", "1 0 [1][2]")
	}
}
