package relstore_test

import (
	"strconv"
	"testing"

	"relstore/api"
	"relstore/disk"
	"relstore/relstore"
)

// digits: a table n of the numbers from 0 to 9.
func digits(t *testing.T, c *relstore.Session) {
	t.Helper()
	does(t, c, "create table n (a integer); insert into n values (0), (1), (2), (3), (4), (5), (6), (7), (8), (9)", "0 10")
}

// As many rows as there is always room for, of several shapes: they come all at once, are all turned, go, and come again; and the store is opened anew over them.
func TestRoom(t *testing.T) {
	t.Parallel()
	const digitsRoom = 2000 + 10*(11+100)
	numbers := " from n x, n y, n z, n w where x.a + 10 * y.a + 100 * z.a + 1000 * w.a < "
	k := "x.a + 10 * y.a + 100 * z.a + 1000 * w.a"
	for name, x := range map[string]struct {
		makes, values, turns string
		room, table          int // of a row, and of the table
	}{
		"small":   {"create table t (a integer)", k, "a = a + 1", 11 + 100, 2000},
		"keyed":   {"create table t (a integer primary key)", k, "a = (a * 7919 + 1) % 10007", 10 + 100 + 300, 3000},
		"indexed": {"create table t (a integer, b text unique, c text); create index i on t (c); create index j on t (a)", k + ", cast(" + k + " as text) || '" + run("y", 150) + "', '" + run("z", 188) + "'", "a = -a, b = upper(b), c = lower(c)", 1 + 9 + 3 + 154 + 3 + 188 + 100 + 900, 5000},
		"long":    {"create table t (a text, b text, c text)", "'" + run("x", 1000) + "', '" + run("y", 1000) + "', '" + run("z", 990) + "'", "b = upper(b)", 3000 + 100, 2000},
		"odd":     {"create table t (a text, b integer)", "'" + run("x", 1000) + "', " + k, "a = substr(a, b % 500)", 1 + 3 + 1000 + 9 + 100, 2000},
	} {
		rows := (api.MaxRoom - digitsRoom - x.table) / x.room
		all, count := strconv.Itoa(rows), "["+strconv.Itoa(rows)+"]"
		d := disk.New()
		c := opened(t, d, api.MinFrames).Session()
		digits(t, c)
		for _, s := range results(t, c, x.makes) {
			if s.Err != api.OK {
				t.Fatalf("%s: %v", name, s.Err)
			}
		}
		insert := "insert into t select " + x.values + numbers + all
		doesAll(t, c, pair{insert, all}, pair{"update t set " + x.turns, all}, pair{"select count(*) from t", count})
		c = opened(t, d, api.MinFrames).Session()
		doesAll(t, c, pair{"select count(*) from t", count}, pair{"delete from t", all}, pair{insert, all}, pair{"drop table t", "0"})
		doesAll(t, c, pair{x.makes, run("0 ", len(results(t, fresh(t), x.makes)))[:2*len(results(t, fresh(t), x.makes))-1]}, pair{insert, all})
		c = opened(t, twin(t, d), api.MaxFrames).Session()
		does(t, c, "select count(*) from t; select count(*) from n", count+" [10]")
		roomInTransaction(t, d, insert, x.turns, all)
		if t.Failed() {
			t.Fatal(name)
		}
	}
}

// roomInTransaction: all rows go, come again and are turned in one transaction, while another one sees them as they were.
func roomInTransaction(t *testing.T, d *disk.Disk, insert, turns, all string) {
	t.Helper()
	s := opened(t, d, api.MinFrames)
	a, b := s.Session(), s.Session()
	count := "[" + all + "]"
	does(t, b, "begin; select count(*) from t", "0 "+count)
	doesAll(t, a, pair{"begin; delete from t; savepoint s", "0 " + all + " 0"}, pair{insert, all}, pair{"rollback to s; select count(*) from t", "0 [0]"}, pair{insert, all}, pair{"update t set " + turns, all}, pair{"select count(*) from t; commit", count + " 0"})
	does(t, b, "select count(*) from t; delete from t; commit", count+" "+all+" Conflict")
	does(t, b, "select count(*) from t", count)
	does(t, opened(t, twin(t, d), api.MinFrames).Session(), "select count(*) from t", count)
}

// As many tables and indexes as there is always room for.
func TestRoomForTables(t *testing.T) {
	t.Parallel()
	d := disk.New()
	c := opened(t, d, api.MinFrames).Session()
	most := api.MaxRoom / 4000
	for i := range most {
		n := strconv.Itoa(i)
		does(t, c, "create table t"+n+" (a integer primary key); create index i"+n+" on t"+n+" (a)", "0 0")
	}
	c = opened(t, d, api.MinFrames).Session()
	for i := range most {
		n := strconv.Itoa(i)
		does(t, c, "insert into t"+n+" values ("+n+"); select a from t"+n+" where a = "+n+"; delete from t"+n, "1 ["+n+"] 1")
	}
	for i := range most {
		n := strconv.Itoa(most - 1 - i)
		does(t, c, "drop index i"+n+"; drop table t"+n, "0 0")
	}
}

// What goes gives its room back: the same is done again and again.
func TestRoomComesBack(t *testing.T) {
	d := disk.New()
	c := opened(t, d, api.MinFrames).Session()
	digits(t, c)
	sizes := []int{}
	for range 12 {
		does(t, c, "create table t (a integer primary key, b text); create index i on t (b); insert into t select x.a + 10 * y.a, '"+run("z", 180)+"' from n x, n y; update t set a = a + 1, b = upper(b); delete from t where a < 50; drop index i; drop table t; checkpoint", "0 0 100 100 49 0 0 0")
		sizes = append(sizes, len(fileOf(t, d, 0)))
	}
	if sizes[1] != sizes[11] {
		t.Errorf("pages are lost: %v", sizes)
	}
}
