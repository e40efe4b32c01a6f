package relstore_test

import (
	"testing"

	"relstore/api"
	"relstore/relstore"
)

// stays: a statement that is refused has done nothing.
func stays(t *testing.T, c *relstore.Session, text, want, left string) {
	t.Helper()
	does(t, c, text, want)
	does(t, c, "select * from t", left)
}

// First what a statement means; then null, checks, room, keys: each over all rows.
func TestOrderOfErrors(t *testing.T) {
	c := fresh(t)
	does(t, c, "create table t (a integer not null check (a > 0), b text, c text unique, d text, e text, f text, g text); create unique index i on t (a); insert into t (a, c) values (1, 'c')", "0 0 1")
	left := "[1 null 'c' null null null null]"
	x, y := quoted(1000), quoted(189)
	for _, p := range []pair{
		{"insert into t (a, c) values ('1', null), (null, 1)", "Type"},
		{"insert into t (a, b) values (1, 2), (null, 'b')", "Type"},
		{"insert into t (a, a) values (1, 2, 3)", "Exists"},
		{"insert into t (a, c) values (1, 'c'), (0, " + y + "), (null, null)", "Null"},
		{"insert into t (c) values ('d')", "Null"},
		{"insert into t (a, c) values (1, 'c'), (2, " + y + "), (0, null)", "Check"},
		{"insert into t (a, c) values (1, 'c'), (2, " + y + ")", "Large"},
		{"insert into t (a, b, d, e, c) values (1, " + x + ", " + x + ", " + x + ", 'd'), (1, null, null, null, 'c')", "Large"},
		{"insert into t (a, c) values (2, 'c')", "Unique"},
		{"insert into t (a, c) values (1, 'd')", "Unique"},
		{"insert into t (a, c) values (2, 'd'), (3, 'd')", "Unique"},
		{"insert into t (a, c) values (2, 'd'), (2, 'e')", "Unique"},
		{"insert into t (a, c) select 2, 'd' union all select null, 'e' union all select 0, 'c'", "Null"},
		{"insert into t (a, c) select a, c from t", "Unique"},
		{"update t set a = null, c = " + y, "Null"},
		{"update t set a = 0, c = " + y, "Check"},
		{"update t set c = " + y, "Large"},
		{"update t set a = 2, b = 5", "Type"},
		{"update t set b = " + x + ", d = b, e = " + x + ", f = " + x, "Large"},
	} {
		stays(t, c, p.text, p.want, left)
	}
	does(t, c, "insert into t (a, c) values (2, null), (3, null), (4, 'd')", "3")
	left = "[1 null 'c' null null null null][2 null null null null null null][3 null null null null null null][4 null 'd' null null null null]"
	for _, p := range []pair{
		{"update t set a = a - 1", "Check"},
		{"update t set a = nullif(a - 1, 0)", "Null"},
		{"update t set a = 5 where a > 2", "Unique"},
		{"update t set a = 1 where a = 2", "Unique"},
		{"update t set c = 'e' where a < 3", "Unique"},
		{"update t set c = 'c' where a = 4", "Unique"},
	} {
		stays(t, c, p.text, p.want, left)
	}
}

// Keys with nulls, and rows that take one another's place.
func TestUnique(t *testing.T) {
	doesAll(t, fresh(t),
		pair{"create table t (a integer, b text, c boolean, unique (b, a), unique (c))", "0"},
		pair{"insert into t values (1, 'x', true), (1, null, null), (1, null, null), (null, 'x', false), (null, 'x', null)", "5"},
		pair{"insert into t values (1, 'x', null)", "Unique"},
		pair{"insert into t values (2, 'x', false)", "Unique"},
		pair{"insert into t values (2, 'x', null), (1, 'y', null)", "2"},
		pair{"update t set c = not c; select a, b, c from t where c is not null", "7 [null 'x' true][1 'x' false]"},
		pair{"update t set a = 3 - a, b = case a when 1 then 'x' else b end where b = 'x' and a is not null; select a, b from t where b = 'x'", "2 [null 'x'][null 'x'][1 'x'][2 'x']"},
		pair{"update t set b = 'x' where b is null", "Unique"},
		pair{"update t set a = 1 where b = 'x' and c is null", "Unique"},
		pair{"update t set a = 1 where b = 'x' and c is null and a is null", "Unique"},
		pair{"update t set a = 5 where b = 'x' and c is null and a is null", "1"},
		pair{"update t set a = 1", "Unique"},
		pair{"delete from t where a = 1 and b = 'x'; insert into t values (1, 'x', null); insert into t values (1, 'x', null)", "1 1 Unique"},
		pair{"update t set a = null; update t set b = 'x'; select count(*) from t where b = 'x'", "7 7 [7]"},
	)
	doesAll(t, fresh(t),
		pair{"create table t (a integer primary key, b integer); insert into t values (1, 1), (2, 2), (3, 3)", "0 3"},
		pair{"update t set a = a % 3 + 1; select * from t", "3 [1 3][2 1][3 2]"},
		pair{"update t set a = a + 1 where a < 3", "Unique"},
		pair{"update t set a = a + 1 where a > 1; select * from t where a = 3; select * from t where a = 2", "2 [3 1] -"},
		pair{"insert into t values (2, 0), (2, 1)", "Unique"},
		pair{"insert into t values (2, 0); update t set a = 7 where a = 2; insert into t values (2, 5); select a from t", "1 1 1 [1][2][3][4][7]"},
		pair{"update t set a = null where a = 9", "0"},
		pair{"insert into t (b) values (1)", "Null"},
	)
}

// Values that are not the same, though their texts begin alike or their bytes are those of others.
func TestKeysApart(t *testing.T) {
	zero, high := "'\x00'", "'\x00\xff'"
	doesAll(t, fresh(t),
		pair{"create table t (a text, b text, primary key (a, b)); create index i on t (a)", "0 0"},
		pair{"insert into t values ('', ''), ('', " + zero + "), (" + zero + ", ''), (" + zero + ", " + zero + "), (" + high + ", ''), ('\xff', '\xff'), ('\xff\xff', '\xff')", "7"},
		pair{"insert into t values (" + high + ", '')", "Unique"},
		pair{"select count(*) from t where a = ''; select count(*) from t where a = " + zero + "; select count(*) from t where a = " + high + "; select count(*) from t where a = '\xff'", "[2] [2] [1] [1]"},
		pair{"select count(*) from t where a = '' and b = ''; select count(*) from t where a = " + zero + " and b = ''", "[1] [1]"},
		pair{"delete from t where a = " + zero + "; select count(*) from t", "2 [5]"},
	)
	doesAll(t, fresh(t),
		pair{"create table t (a integer unique, b boolean)", "0"},
		pair{"insert into t values (-9223372036854775807 - 1, true), (9223372036854775807, false), (0, null), (-1, null)", "4"},
		pair{"select a from t; select b from t where a = 9223372036854775807; select b from t where a = -1", "[-9223372036854775808][-1][0][9223372036854775807] [false] [null]"},
	)
}

func TestChecks(t *testing.T) {
	doesAll(t, fresh(t),
		pair{"create table t (a integer check (a < 10), b integer, check (t.a + b > 0), check (b <> 3 or a is null), check (null))", "0"},
		pair{"insert into t values (null, null), (1, 1), (null, 3)", "3"},
		pair{"insert into t values (1, 2), (10, 1)", "Check"},
		pair{"insert into t values (1, -1)", "Check"},
		pair{"insert into t values (1, 3)", "Check"},
		pair{"update t set a = 1", "Check"},
		pair{"update t set a = 1 where b is null or b < 3; update t set b = -1 where a is null; select * from t", "2 1 [null -1][1 null][1 1]"},
		pair{"update t set b = b - 1; update t set b = b - 1", "3 Check"},
	)
}

// The rows that are just large enough, and those that are too large.
func TestLarge(t *testing.T) {
	c := fresh(t)
	doesAll(t, c,
		pair{"create table t (a text, b text, c text)", "0"},
		pair{"insert into t values (" + quoted(1000) + ", " + quoted(1000) + ", " + quoted(990) + ")", "1"},
		pair{"insert into t values (" + quoted(1000) + ", " + quoted(1000) + ", " + quoted(991) + ")", "Large"},
		pair{"insert into t values (" + quoted(188) + ", null, null), (" + quoted(1000) + ", null, null)", "2"},
		pair{"create index i on t (a)", "Large"},
		pair{"create unique index i on t (a)", "Large"},
		pair{"insert into t select a, b, c from t", "3"},
		pair{"create unique index i on t (a)", "Large"},
		pair{"delete from t where length(a) > 188; create unique index i on t (a)", "4 Unique"},
		pair{"create index i on t (a); update t set a = a || 'x'", "0 Large"},
		pair{"create index j on t (b, a)", "Large"},
		pair{"update t set a = substr(a, 2); create index j on t (b, a)", "2 0"},
		pair{"update t set b = 'x'", "Large"},
		pair{"update t set a = substr(a, 5), b = 'x'; select count(*) from t where b = 'x'", "2 [2]"},
		pair{"update t set b = b || 'x'; update t set b = b || 'x'", "2 Large"},
		pair{"select length(a), b from t", "[183 'xx'][183 'xx']"},
	)
	// A key whose bytes are 191, and one more: a byte 0 takes two.
	zeros := func(n int) string { return "'" + run("\x00", n) + "'" }
	doesAll(t, fresh(t),
		pair{"create table t (a text primary key, b boolean, unique (b, a))", "0"},
		pair{"insert into t values (" + zeros(93) + ", true), ('" + run("\x00", 93) + "x', null)", "2"},
		pair{"insert into t values (" + zeros(94) + ", null)", "Large"},
		pair{"insert into t values ('" + run("\x00", 93) + "yy', null)", "Large"},
	)
}

// A table of as many columns as there may be, with keys over all of them.
func TestManyColumns(t *testing.T) {
	s, all, row := "", "", ""
	for i := range api.MaxColumns {
		name := "c" + string(rune('a'+i/26)) + string(rune('a'+i%26))
		s += name + " boolean, "
		all += ", " + name
		row += ", true"
	}
	doesAll(t, fresh(t),
		pair{"create table t (" + s + "primary key (" + all[2:] + ")); create unique index i on t (" + all[2:] + ")", "0 0"},
		pair{"insert into t values (" + row[2:] + ")", "1"},
		pair{"insert into t values (" + row[2:] + ")", "Unique"},
		pair{"select count(*) from t where cbf and caa = true; update t set caa = false; select count(*) from t where caa", "[1] 1 [0]"},
	)
}
