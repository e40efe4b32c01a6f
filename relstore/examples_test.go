package relstore_test

import (
	"testing"

	"relstore/api"
)

// The examples of the document that one session tells.
func TestExamples(t *testing.T) {
	for _, l := range [][]pair{
		{{"create table t (a integer primary key, b text); insert into t values (2, 'two'), (1, 'one'); select b from t where a > 1; insert into t values (1, 'again')", "0 2 ['two'] Unique"}},
		{{"create table p (id integer primary key, name text not null, boss integer); insert into p values (1, 'ada', null), (2, 'bo', 1), (3, 'cy', 1), (4, 'di', 2)", "0 4"},
			{"select x.name, y.name as boss from p x left join p y on x.boss = y.id order by boss desc, 1", "['di' 'bo']['bo' 'ada']['cy' 'ada']['ada' null]"},
			{"select boss, count(*) as n, min(name) from p group by boss having count(*) > 1", "[1 2 'bo']"},
			{"select name from p where exists (select 1 from p q where q.boss = p.id)", "['ada']['bo']"},
			{"select avg(id), sum(id), count(boss), count(distinct boss) from p", "[2 10 3 2]"}},
		{{"create table n (k integer); insert into n values (null), (3), (1), (3)", "0 4"},
			{"select k from n where k <> 3; select k from n where not (k <> 3); select k from n where (k <> 3) is null", "[1] [3][3] [null]"},
			{"select k from n union select 2 order by 1 desc limit 2 offset 1", "[2][1]"},
			{"select k from n except select 3; select k from n intersect select k from n", "[null][1] [null][1][3]"},
			{"select k + 1 from n union all select null", "[null][null][2][4][4]"}},
		{{"create table t (a integer, b integer, unique (a)); insert into t values (1, 1), (2, 2), (3, 3)", "0 3"},
			{"update t set a = a + 1; select * from t", "3 [2 1][3 2][4 3]"},
			{"update t set a = 3 where b = 1", "Unique"},
			{"delete from t where a in (select b + 1 from t where b < 3); select * from t", "2 [4 3]"},
			{"insert into t values (null, 4), (null, 5)", "2"}},
		{{"create table acc (id integer primary key, bal integer not null check (bal >= 0)); insert into acc values (1, 10), (2, 10)", "0 2"},
			{"update acc set bal = bal - 15 where id = 1", "Check"},
			{"update acc set bal = bal - 5 where id = 1; select * from acc", "1 [1 5][2 10]"}},
		{{"select x from t; select 1", "Missing"},
			{"create table t (a integer, a text)", "Exists"},
			{"create table t (a integer, b integer); select a from t group by b", "0 Form"}},
		{{"create table t (a integer, b text default 'no', c boolean default true check (c))", "0"},
			{"insert into t (a) values (7); select * from t", "1 [7 'no' true]"},
			{"insert into t values (1, 2, true)", "Type"},
			{"select upper(b) || '!', substr(b, 2), substr(b, 0, 2), length(b), nullif(a, 7), coalesce(null, a) from t", "['NO!' 'o' 'n' 2 null 7]"},
			{"select case when a > 5 then 'big' end, cast(a as text), a between 1 and 7, b like 'n%', -a % 4, a / 0, 9223372036854775807 + 1 from t", "['big' '7' true true -3 null null]"}},
	} {
		doesAll(t, fresh(t), l...)
	}
}

// A text that is none: its error and its place, and nothing is done.
func TestTextsThatAreNone(t *testing.T) {
	c := fresh(t)
	for _, x := range []struct {
		text string
		e    api.Errno
		at   int
	}{
		{"select 1 +; select 2", api.ErrSyntax, 10},
		{"select 'abc", api.ErrSyntax, 7},
		{"create table t (a integer); select 'abc", api.ErrSyntax, 35},
		{"create table t (a integer); create table u (a integer) create", api.ErrSyntax, 55},
		{"create table t (a integer);;", api.ErrSyntax, 27},
		{"create table t (a integer); select '" + run("x", 1001) + "'", api.ErrLarge, 35},
		{"create table t (a integer)" + run(" ", 20000), api.ErrLarge, 0},
	} {
		l, e, at := c.Exec(x.text)
		if len(l) > 0 || e != x.e || at != x.at {
			t.Errorf("%s: %d results, %v at %d", short(x.text), len(l), e, at)
		}
		does(t, c, "select * from t", "Missing")
	}
	doesAll(t, c, pair{"", ""}, pair{" -- nothing\n", ""}, pair{"select 1;", "[1]"})
}
