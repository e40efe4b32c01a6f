package relstore_test

import (
	"reflect"
	"testing"

	"relstore/api"
	"relstore/disk"
	"relstore/relstore"
)

// results of a text that must be one.
func results(t testing.TB, c *relstore.Session, text string) []api.Result {
	t.Helper()
	l, e, at := c.Exec(text)
	if e != api.OK || at != 0 {
		t.Fatalf("%s: %v at %d", short(text), e, at)
	}
	return l
}

// Each kind of statement: its kind, and what its result has.
func TestResultOfEachKind(t *testing.T) {
	c := fresh(t)
	l := results(t, c, `create table t (a integer, b text); create unique index i on t (a); insert into t values (1, 'x'), (2, 'y'), (3, null);
		update t set b = 'z' where a > 1; delete from t where a = 3; select a as n, b, true from t; drop index i; drop table t; select 1 from t; select 2`)
	one, two := api.Value{Kind: api.Int, N: 1}, api.Value{Kind: api.Int, N: 2}
	x, z, yes := api.Value{Kind: api.Text, S: "x"}, api.Value{Kind: api.Text, S: "z"}, api.Value{Kind: api.Bool, N: 1}
	want := []api.Result{
		{Kind: api.CreateTable}, {Kind: api.CreateIndex}, {Kind: api.Insert, Count: 3}, {Kind: api.Update, Count: 2}, {Kind: api.Delete, Count: 1},
		{Kind: api.Query, Columns: []api.Column{{Name: "n", Kind: api.Int}, {Name: "b", Kind: api.Text}, {Name: "column3", Kind: api.Bool}}, Rows: [][]api.Value{{one, x, yes}, {two, z, yes}}},
		{Kind: api.DropIndex}, {Kind: api.DropTable}, {Kind: api.Query, Err: api.ErrMissing},
	}
	if len(l) != len(want) {
		t.Fatalf("%d results: %+v", len(l), l)
	}
	for i := range want {
		if !same(l[i], want[i]) {
			t.Errorf("result %d: %+v", i, l[i])
		}
	}
}

// What each statement that is refused has for a kind.
func TestRefusedOfEachKind(t *testing.T) {
	c := fresh(t)
	does(t, c, "create table t (a integer primary key); insert into t values (1)", "0 1")
	for _, x := range []struct {
		text string
		want api.Result
	}{
		{"select z from t", api.Result{Kind: api.Query, Err: api.ErrName}},
		{"insert into t values (1)", api.Result{Kind: api.Insert, Err: api.ErrUnique}},
		{"update t set a = null", api.Result{Kind: api.Update, Err: api.ErrNull}},
		{"delete from t where a", api.Result{Kind: api.Delete, Err: api.ErrType}},
		{"create table t (a integer)", api.Result{Kind: api.CreateTable, Err: api.ErrExists}},
		{"create index i on t (b)", api.Result{Kind: api.CreateIndex, Err: api.ErrName}},
		{"drop table u", api.Result{Kind: api.DropTable, Err: api.ErrMissing}},
		{"drop index i", api.Result{Kind: api.DropIndex, Err: api.ErrMissing}},
	} {
		l := results(t, c, x.text+"; insert into t values (2)")
		if len(l) != 1 || !reflect.DeepEqual(l[0], x.want) {
			t.Errorf("%s: %+v", x.text, l)
		}
		does(t, c, "select * from t", "[1]")
	}
}

func TestInsert(t *testing.T) {
	doesAll(t, fresh(t),
		pair{"create table t (a integer, b text default 'b', c boolean default false, d integer default -7, e integer default null)", "0"},
		pair{"insert into t values (1, 'x', true, 2, 3); select * from t; delete from t", "1 [1 'x' true 2 3] 1"},
		pair{"insert into t (d, a) values (5, 6), (null, null); select * from t; delete from t", "2 [null 'b' false null null][6 'b' false 5 null] 2"},
		pair{"insert into t (e) values (1); select * from t; delete from t", "1 [null 'b' false -7 1] 1"},
		pair{"insert into t (a) select 1 where false; select count(*) from t", "0 [0]"},
		pair{"insert into t (a) select 1 union all select 1; select * from t", "2 [1 'b' false -7 null][1 'b' false -7 null]"},
		// The values are worked out ahead of any row that comes.
		pair{"insert into t (a) values ((select count(*) from t)), ((select count(*) + 10 from t)); select a from t", "2 [1][1][2][12]"},
		pair{"insert into t (a, d) select a + 100, d from t; select a from t", "4 [1][1][2][12][101][101][102][112]"},
		pair{"insert into t select * from t; select count(*) from t", "8 [16]"},
		pair{"insert into t (a, b) values (1 + 2 * 3, 'p' || 'q'), (9223372036854775807 + 1, null); select a, b from t where b is null or b = 'pq'", "2 [null null][7 'pq']"},
	)
}

func TestUpdate(t *testing.T) {
	doesAll(t, fresh(t),
		pair{"create table t (a integer, b integer, c text); insert into t values (1, 10, 'x'), (2, 20, 'y'), (3, null, 'z')", "0 3"},
		// What each column becomes is told of the row as it was.
		pair{"update t set a = b, b = a where a < 3; select a, b from t", "2 [3 null][10 1][20 2]"},
		pair{"update t set a = b, b = a; select a, b from t", "3 [null 3][1 10][2 20]"},
		pair{"update t set c = c || 'x' where b = null", "0"},
		pair{"update t set c = (select max(t.c) from t) || t.c where exists (select 1 from t u where u.b > t.b); select c from t", "2 ['y']['zx']['zz']"},
		pair{"update t set b = (select sum(b) from t), c = 'c'; select b, c from t", "3 [33 'c'][33 'c'][33 'c']"},
		pair{"update t set c = c; update t set c = null where false", "3 0"},
		pair{"update t set b = a where a in (select a + 1 from t); select a, b from t", "1 [null 33][1 33][2 2]"},
		pair{"update t set b = (select count(*) from (select * from t) as t); select b from t", "3 [3][3][3]"},
		pair{"update t set b = (select x.a from t x where x.a = t.a + 1); select b from t", "3 [null][null][2]"},
	)
}

func TestDelete(t *testing.T) {
	doesAll(t, fresh(t),
		pair{"create table t (a integer primary key, b integer); create index i on t (b); insert into t values (1, 1), (2, 1), (3, 2), (4, null)", "0 0 4"},
		pair{"delete from t where b = 3; delete from t where b > null; delete from t where false", "0 0 0"},
		pair{"delete from t where b = 2; select * from t", "1 [1 1][2 1][4 null]"},
		pair{"delete from t where a = (select max(a) from t); select a from t", "1 [1][2]"},
		pair{"delete from t where not exists (select * from t x where x.a < t.a); select a from t where b = 1", "1 [2]"},
		pair{"delete from t; delete from t; select * from t; select * from t where b = 1", "1 0 - -"},
		pair{"insert into t values (2, 1); select * from t where a = 2; select * from t where b = 1", "1 [2 1] [2 1]"},
	)
}

func TestTablesAndIndexes(t *testing.T) {
	doesAll(t, fresh(t),
		pair{"create table t (a integer); create table u (a integer, b integer)", "0 0"},
		pair{"create table t (a integer)", "Exists"},
		pair{"insert into t values (1), (2); insert into u values (1, 1), (1, 2)", "2 2"},
		pair{"create index i on t (a); create index i on u (a)", "0 Exists"},
		pair{"create unique index j on u (a)", "Unique"},
		pair{"create unique index j on u (b, a); insert into u values (1, 2)", "0 Unique"},
		pair{"select * from u where b = 2 and a = 1; select * from t where a = 2", "[1 2] [2]"},
		// An index that was not made leaves nothing.
		pair{"drop index j; create unique index j on u (a)", "0 Unique"},
		pair{"drop index j", "Missing"},
		pair{"insert into u values (1, 2); select count(*) from u where b = 2", "1 [2]"},
		// With a table go its rows and its indexes.
		pair{"drop table t; drop index i", "0 Missing"},
		pair{"create table t (a integer, b text); select * from t; create index i on t (b)", "0 - 0"},
		pair{"insert into t values (1, 'x'); select a from t where b = 'x'", "1 [1]"},
		pair{`create table "T" (a integer); insert into "T" values (5); select * from t; select * from "T"; drop table "T"; select * from t`, "0 1 [1 'x'] [5] 0 [1 'x']"},
		pair{`create table "select" ("a b" integer primary key, """" text check ("""" <> 'x')); insert into "select" values (1, 'x')`, "0 Check"},
		pair{`insert into "select" values (1, 'y'); select """" from "select" where "select"."a b" = 1`, "1 ['y']"},
	)
}

// Names as long as they may be, of bytes that take most room.
func TestLongNames(t *testing.T) {
	d := disk.New()
	c := opened(t, d, 8).Session()
	name := `"` + run("\x00", 60) + `"`
	other := `"` + run("\x00", 59) + "\x01" + `"`
	does(t, c, "create table "+name+" ("+name+" integer primary key); create table "+other+" ("+other+" integer); create index "+name+" on "+name+" ("+name+"); create index "+other+" on "+name+" ("+name+")", "0 0 0 0")
	does(t, c, "insert into "+name+" values (1), (2)", "2")
	for range 2 {
		does(t, c, "select * from "+name+" where "+name+" = 2; select * from "+other, "[2] -")
		does(t, c, "create index "+other+" on "+name+" ("+name+")", "Exists")
		c = opened(t, d, 8).Session()
	}
	does(t, c, "drop table "+name+"; select * from "+other+"; drop index "+other, "0 - Missing")
	for _, long := range []string{`"` + run("\x00", 61) + `"`, `"` + run("z", 1000) + `"`} {
		does(t, c, "select * from "+long, "Missing")
		does(t, c, "drop table "+long, "Missing")
		does(t, c, "create table "+long+" (a integer)", "Large")
		does(t, c, "create index "+long+" on "+other+" (a)", "Large")
	}
}

// Definitions that are as long as a statement may be, and checks that are all asked.
func TestLongDefinitions(t *testing.T) {
	d := disk.New()
	c := opened(t, d, 8).Session()
	s := "create table t (a integer"
	for len(s) < api.MaxSQL-20 {
		s += ",check(a<>0)"
	}
	does(t, c, s+", check (a <> 7))", "0")
	for range 2 {
		does(t, c, "insert into t values (7)", "Check")
		does(t, c, "insert into t values (null), (1)", "2")
		c = opened(t, d, 8).Session()
	}
	does(t, c, "select count(*) from t; drop table t; create table t (a integer); insert into t values (7)", "[4] 0 0 1")
}
