package relstore_test

import (
	"testing"

	"relstore/api"
	"relstore/disk"
	"relstore/relstore"
	"relstore/sql"
)

// plays: what sessions of a new store are told, and what they answer: each text has the session's letter and a colon ahead.
func plays(t testing.TB, name string, l ...pair) *disk.Disk {
	t.Helper()
	d := disk.New()
	s := opened(t, d, 8)
	sessions := map[byte]*relstore.Session{}
	for _, p := range l {
		c := sessions[p.text[0]]
		if c == nil {
			c = s.Session()
			sessions[p.text[0]] = c
		}
		r, e, at := c.Exec(p.text[2:])
		if got := told(r); e != api.OK || at != 0 || got != p.want {
			t.Errorf("%s: %s:\n%s (%v at %d), not\n%s", short(name), short(p.text), short(got), e, at, short(p.want))
		}
		for _, x := range r {
			bare(t, x)
		}
	}
	return d
}

// The examples of the document that several sessions tell.
func TestExamplesOfSessions(t *testing.T) {
	plays(t, "6",
		pair{"a:create table acc (id integer primary key, bal integer not null check (bal >= 0)); insert into acc values (1, 10), (2, 10)", "0 2"},
		pair{"a:begin; select sum(bal) from acc", "0 [20]"}, pair{"b:begin; select sum(bal) from acc", "0 [20]"},
		pair{"a:update acc set bal = bal - 15 where id = 1", "Check"}, pair{"a:update acc set bal = bal - 5 where id = 1", "1"},
		pair{"b:update acc set bal = bal - 5 where id = 2", "1"}, pair{"a:commit", "0"},
		pair{"b:select * from acc; commit", "[1 10][2 5] Conflict"}, pair{"b:select * from acc", "[1 5][2 10]"},
	)
	plays(t, "7",
		pair{"a:create table t (a integer); begin; insert into t values (1); savepoint s; insert into t values (2); savepoint s; insert into t values (3)", "0 0 1 0 1 0 1"},
		pair{"a:rollback to s; select a from t", "0 [1][2]"},
		pair{"a:release s; rollback to s; select a from t", "0 0 [1]"}, pair{"a:rollback to q", "Missing"},
		pair{"b:select a from t", "-"}, pair{"a:commit; commit", "0 State"}, pair{"b:select a from t", "[1]"},
	)
}

// Each sequence of so many statements of transactions, held against the world.
func TestStates(t *testing.T) {
	t.Parallel()
	texts := []string{"begin", "commit", "rollback", "savepoint s", "savepoint p", "rollback to s", "rollback to p", "release s", "release p", "checkpoint", "insert into t select count(*) from t"}
	var statements []api.Stmt
	for _, text := range texts {
		l, e, _ := sql.Parse(text)
		if e != api.OK {
			t.Fatal(text, e)
		}
		statements = append(statements, l[0])
	}
	const long = 5
	makes, _, _ := sql.Parse("create table t (a integer)")
	clears, _, _ := sql.Parse("delete from t")
	asks, _, _ := sql.Parse("select * from t")
	s, by := opened(t, disk.New(), 8), newWorld()
	other := s.Session()
	results(t, other, "create table t (a integer)")
	by.do(0, makes[0])
	all := 1
	for range long {
		all *= len(texts)
	}
	// Sequences that begin with BEGIN, all of them; of the others a few.
	for n := 0; n < all; n++ {
		if n%len(texts) != 0 && n%37 != 0 {
			continue
		}
		c := s.Session()
		told := ""
		for i, rest := 0, n; i < long; i, rest = i+1, rest/len(texts) {
			k := rest % len(texts)
			told += texts[k] + "; "
			want, _ := by.do(1, statements[k])
			if got := results(t, c, texts[k]); len(got) != 1 || !same(got[0], want) {
				t.Fatalf("%s: %+v, not %+v", told, got, want)
			}
		}
		for _, session := range []int{1, 0} {
			want, _ := by.do(session, asks[0])
			if got := results(t, []*relstore.Session{other, c}[session], "select * from t"); !same(got[0], want) {
				t.Fatalf("%s: session %d: %+v, not %+v", told, session, got, want)
			}
		}
		c.Exec("rollback")
		delete(by.open, 1)
		if s.Versions() != 0 {
			t.Fatalf("%s: %d versions", told, s.Versions())
		}
		if len(by.now.list[0].rows) > 0 {
			results(t, other, "delete from t")
			by.do(0, clears[0])
		}
	}
}

// States, one by one.
func TestStatesOneByOne(t *testing.T) {
	plays(t, "none is open",
		pair{"a:commit", "State"}, pair{"a:rollback", "State"}, pair{"a:savepoint s", "State"}, pair{"a:release s", "State"}, pair{"a:rollback to s", "State"}, pair{"a:checkpoint", "0"}, pair{"a:begin", "0"},
	)
	plays(t, "one is open",
		pair{"a:begin", "0"}, pair{"a:begin", "State"}, pair{"a:checkpoint", "State"}, pair{"a:rollback to s", "Missing"}, pair{"a:release s", "Missing"}, pair{"a:savepoint s; rollback to s; release s", "0 0 0"}, pair{"a:release s", "Missing"}, pair{"a:commit", "0"}, pair{"a:commit", "State"},
		pair{"a:begin; rollback", "0 0"}, pair{"a:rollback", "State"}, pair{"a:begin; commit; begin; rollback; begin", "0 0 0 0 0"}, pair{"b:begin; checkpoint", "0 State"}, pair{"c:checkpoint", "0"},
	)
	plays(t, "points are the transaction's own",
		pair{"a:begin; savepoint s; commit; begin; rollback to s", "0 0 0 0 Missing"}, pair{"a:savepoint s; rollback; begin; release s", "0 0 0 Missing"}, pair{"b:begin; rollback to s", "0 Missing"},
	)
	plays(t, "names of points",
		pair{`a:begin; savepoint "S"; rollback to s`, "0 0 Missing"}, pair{`a:savepoint S; rollback to s; release "S"; release "s"; rollback to s`, "0 0 0 Missing"},
		pair{`a:savepoint "` + run("x", 1000) + `"; rollback to "` + run("x", 999) + `"`, "0 Missing"}, pair{`a:rollback to "` + run("x", 1000) + `"`, "0"},
	)
	// A refusal with ErrConflict ends it, too.
	plays(t, "conflict",
		pair{"a:create table t (a integer); begin; select * from t; insert into t values (1); savepoint s", "0 0 - 1 0"}, pair{"b:insert into t values (2)", "1"},
		pair{"a:commit; select * from t", "Conflict"}, pair{"a:commit", "State"}, pair{"a:rollback to s", "State"}, pair{"a:checkpoint; select * from t; begin", "0 [2] 0"},
	)
}

// Points of one name and of several.
func TestPoints(t *testing.T) {
	ahead := pair{"a:create table t (a integer); begin; insert into t values (1); savepoint s; insert into t values (2); savepoint p; insert into t values (3); savepoint s; insert into t values (4); savepoint q; insert into t values (5)", "0 0 1 0 1 0 1 0 1 0 1"}
	for _, x := range [][]pair{
		{{"a:rollback to s; select * from t", "0 [1][2][3]"}, {"a:rollback to q", "Missing"}, {"a:rollback to s; rollback to p; select * from t; rollback to s; select * from t", "0 0 [1][2] 0 [1]"}, {"a:rollback to p", "Missing"}},
		{{"a:release s; select * from t", "0 [1][2][3][4][5]"}, {"a:rollback to q", "Missing"}, {"a:rollback to p; release s; select * from t", "0 0 [1][2]"}, {"a:rollback to s", "Missing"}, {"a:release p", "Missing"}},
		{{"a:release s; rollback to s; select * from t", "0 0 [1]"}},
		{{"a:release p; rollback to s; select * from t", "0 0 [1]"}},
		{{"a:rollback to q; insert into t values (6); rollback to q; insert into t values (7); select * from t", "0 1 0 1 [1][2][3][4][7]"}, {"a:savepoint q; insert into t values (8); rollback to q; release q; rollback to q; select * from t", "0 1 0 0 0 [1][2][3][4]"}},
		{{"a:rollback to p; savepoint p; delete from t; rollback to p; select * from t; commit", "0 0 2 0 [1][2] 0"}, {"b:select * from t", "[1][2]"}},
		{{"a:rollback; select * from t", "0 -"}},
		{{"a:release s; commit", "0 0"}, {"b:select * from t", "[1][2][3][4][5]"}},
	} {
		plays(t, x[0].text, append([]pair{ahead}, x...)...)
	}
	// All kinds of statements are undone.
	plays(t, "all kinds",
		pair{"a:create table t (a integer primary key, b text); create index i on t (b); create table u (a integer); insert into t values (1, 'x'), (2, 'y'); begin; savepoint s", "0 0 0 2 0 0"},
		pair{"a:insert into t values (3, 'x'); update t set b = 'z', a = a + 10; delete from t where a = 11; drop index i; create unique index i on t (a); drop table u; create table u (b text); insert into u values ('u'); create table w (a integer)", "1 3 1 0 0 0 0 1 0"},
		pair{"a:select * from t; select * from u; select * from w", "[12 'z'][13 'z'] ['u'] -"},
		pair{"a:rollback to s; select * from t; select * from t where b = 'y'; select a from u", "0 [1 'x'][2 'y'] [2 'y'] -"},
		pair{"a:select * from w", "Missing"}, pair{"a:create index i on t (a)", "Exists"}, pair{"a:insert into t values (2, 'q')", "Unique"}, pair{"a:insert into t values (11, 'x'); select a from t where b = 'x'", "1 [1][11]"},
		pair{"a:commit; select * from t", "0 [1 'x'][2 'y'][11 'x']"},
	)
}

// A statement that is refused has done nothing, and leaves the transaction open.
func TestRefusedInTransaction(t *testing.T) {
	ahead := []pair{{"a:create table t (a integer primary key, b text check (b <> 'no'), c text not null default 'c'); insert into t values (1, 'x', 'c'); begin; insert into t values (2, 'y', 'c')", "0 1 0 1"}}
	for _, x := range []pair{
		{"begin", "State"}, {"checkpoint", "State"}, {"rollback to s", "Missing"}, {"release s", "Missing"}, {"select * from nothing", "Missing"}, {"select z from t", "Name"}, {"select a from t group by b", "Form"}, {"select a || b from t", "Type"},
		{"insert into t values (3, 'z', 'c'), (1, 'z', 'c')", "Unique"}, {"insert into t values (3, 'z', 'c'), (4, 'z', null)", "Null"}, {"insert into t values (3, 'z', 'c'), (4, 'no', 'c')", "Check"}, {"insert into t select a + 1, b, c from t", "Unique"}, {"insert into t values (3, " + quoted(1000) + ", " + quoted(1000) + "), (4, " + quoted(1000) + " || 'x', null)", "Null"},
		{"update t set a = 1", "Unique"}, {"update t set a = a + 1 where a = 1", "Unique"}, {"update t set b = 'no'", "Check"}, {"update t set a = null", "Null"}, {"delete from t where b", "Type"}, {"delete from t where a = (select 1, 2)", "Form"},
		{"create table t (a integer)", "Exists"}, {"create table u (a integer, a integer)", "Exists"}, {"create unique index i on t (c)", "Unique"}, {"create index i on t (z)", "Name"}, {"drop index i", "Missing"}, {"drop table u", "Missing"},
	} {
		plays(t, x.text, append(ahead, pair{"a:" + x.text + "; insert into t values (9, 'z', 'c')", x.want}, pair{"a:select * from t", "[1 'x' 'c'][2 'y' 'c']"}, pair{"b:select * from t", "[1 'x' 'c']"},
			pair{"a:begin", "State"}, pair{"a:insert into t values (3, 'z', 'd'); commit", "1 0"}, pair{"b:select * from t", "[1 'x' 'c'][2 'y' 'c'][3 'z' 'd']"})...)
	}
	// A text that is none does nothing either.
	s := opened(t, disk.New(), 8)
	c := s.Session()
	does(t, c, "create table t (a integer); begin; insert into t values (1)", "0 0 1")
	if l, e, at := c.Exec("commit; select 'x"); len(l) > 0 || e != api.ErrSyntax || at != 15 {
		t.Error(l, e, at)
	}
	does(t, s.Session(), "select * from t", "-")
	does(t, c, "select * from t; rollback; select * from t", "[1] 0 -")
}

// What a transaction sees: what was committed when it began, with what it has done itself.
func TestSees(t *testing.T) {
	plays(t, "sees",
		pair{"c:create table t (a integer primary key, b text); create index i on t (b); insert into t values (1, 'x'), (2, 'y')", "0 0 2"},
		pair{"a:begin", "0"},
		pair{"b:update t set b = 'z' where a = 1; delete from t where a = 2; insert into t values (3, 'x')", "1 1 1"},
		pair{"a:select * from t; select a from t where b = 'x'; select b from t where a = 2; select count(*) from t where b = 'z'", "[1 'x'][2 'y'] [1] ['y'] [0]"},
		pair{"a:update t set b = 'q' where a = 2; insert into t values (4, 'x')", "1 1"}, pair{"a:insert into t values (2, 'p')", "Unique"},
		pair{"a:select * from t; select a from t where b = 'x'; select a from t where b = 'q'; select a from t where b = 'y'", "[1 'x'][2 'q'][4 'x'] [1][4] [2] -"},
		pair{"b:select * from t; select a from t where b = 'x'", "[1 'z'][3 'x'] [3]"}, pair{"c:begin; select * from t", "0 [1 'z'][3 'x']"},
		pair{"a:commit", "Conflict"}, pair{"a:select * from t", "[1 'z'][3 'x']"},
		// Tables and indexes, too.
		pair{"b:drop index i; drop table t; create table t (z boolean); create table u (a integer)", "0 0 0 0"},
		pair{"c:select a from t where b = 'x'; select * from t", "[3] [1 'z'][3 'x']"}, pair{"c:select * from u", "Missing"}, pair{"c:create index i on t (a)", "Exists"}, pair{"a:select * from t; select * from u", "- -"},
		pair{"c:commit; select * from t; create index i on t (z)", "0 - 0"},
	)
	plays(t, "the transaction begins with BEGIN",
		pair{"c:create table t (a integer)", "0"}, pair{"a:begin", "0"}, pair{"b:begin; insert into t values (1)", "0 1"}, pair{"a:select * from t", "-"}, pair{"b:commit", "0"}, pair{"a:select * from t; commit; select * from t", "- 0 [1]"},
	)
}

// P21: Versions.
func TestVersions(t *testing.T) {
	s := opened(t, disk.New(), 8)
	a, b, c := s.Session(), s.Session(), s.Session()
	has := func(least, most int) {
		t.Helper()
		if n := s.Versions(); n < least || n > most {
			t.Errorf("%d versions, not from %d to %d", n, least, most)
		}
	}
	has(0, 0)
	does(t, a, "create table t (a integer primary key); insert into t values (1), (2); begin", "0 2 0")
	has(0, 0)
	does(t, b, "select * from t; insert into t select a from t where false; update t set a = a", "[1][2] 0 2")
	has(0, 0)
	does(t, b, "begin; update t set a = a + 10; delete from t", "0 2 2")
	has(0, 0)
	does(t, b, "rollback; update t set a = a + 1", "0 2")
	has(2, 10)
	does(t, c, "begin; select * from t", "0 [2][3]")
	does(t, b, "create table u (a integer)", "0")
	has(3, 20)
	does(t, a, "commit", "0")
	has(1, 9)
	does(t, b, "insert into u values (7)", "1")
	does(t, c, "rollback", "0")
	has(0, 0)
	// A transaction that is refused is over.
	does(t, a, "begin; select * from u; insert into u values (8)", "0 [7] 1")
	does(t, b, "delete from u", "1")
	has(1, 1)
	does(t, a, "commit", "Conflict")
	has(0, 0)
}

// What comes to the entries of an index while another transaction drops it is gone with it.
func TestDroppedIndexLeavesNothing(t *testing.T) {
	ahead := pair{"a:create table t (a integer primary key, b integer); create index i on t (b); insert into t values (1, 1), (2, 2)", "0 0 2"}
	other := pair{"b:insert into t values (3, 3); update t set b = 4 where a = 2; delete from t where a = 1; begin; insert into t values (5, 5); commit", "1 1 1 0 1 0"}
	left := "[2 4][3 3][5 5]"
	for _, l := range [][]pair{
		{{"a:begin; drop index i", "0 0"}, other, {"a:commit; select * from t", "0 " + left}},
		{{"a:begin; savepoint s; drop index i; rollback to s; savepoint s; drop index i; savepoint s", "0 0 0 0 0 0 0"}, other, {"a:rollback to s; commit; select * from t", "0 0 " + left}},
		{{"a:begin; savepoint s; drop index i", "0 0 0"}, other, {"a:rollback to s; commit; select * from t; select a from t where b = 4", "0 0 " + left + " [2]"}},
		{{"a:begin; drop index i", "0 0"}, other, {"a:create table t (a integer)", "Exists"}, {"a:rollback; select a from t where b = 5", "0 [5]"}},
		{{"a:begin; insert into t values (9, 9); drop index i; delete from t where a = 9; create table w (a integer)", "0 1 0 1 0"}, other, {"a:commit; select * from t", "0 " + left}},
		{{"a:begin; drop index i; create index i on t (a)", "0 0 0"}, other, {"a:commit", "Conflict"}, {"a:select a from t where b = 4; drop index i", "[2] 0"}},
	} {
		d := plays(t, l[0].text, append([]pair{ahead}, l...)...)
		sound(t, d)
		// Numbers that are given again begin with nothing.
		c := opened(t, d, 8).Session()
		does(t, c, "create table x (a integer primary key, b integer unique); insert into x values (1, 3), (2, 4), (3, 5); select count(*) from x where b = 4", "0 3 [1]")
		sound(t, d)
	}
}

// A disk that is down: what a transaction that is open answers.
func TestDownInTransaction(t *testing.T) {
	d := disk.New()
	s := opened(t, d, 8)
	a, b, c := s.Session(), s.Session(), s.Session()
	does(t, c, "create table t (a integer); insert into t values (1)", "0 1")
	does(t, a, "begin; insert into t values (2)", "0 1")
	does(t, b, "begin; select * from t; savepoint s; insert into t values (3)", "0 [1] 0 1")
	does(t, c, "begin", "0")
	d.Fail(0)
	does(t, a, "commit", "Down")
	does(t, a, "select * from t", "Down")
	for _, text := range []string{"select * from t", "insert into t values (4)", "update t set a = 1", "delete from t", "create table u (a integer)", "drop table t", "create index i on t (a)", "drop index i"} {
		does(t, b, text, "Down")
	}
	does(t, b, "commit", "Down")
	// It is over all the same.
	for _, session := range []*relstore.Session{a, b} {
		if got := told(results(t, session, "rollback")); got != "State" && got != "Down" {
			t.Error(got)
		}
	}
	if got := told(results(t, c, "commit")); got != "0" && got != "Down" {
		t.Error(got)
	}
	d.Crash(nil)
	does(t, opened(t, d, 8).Session(), "select * from t", "[1]")
}
