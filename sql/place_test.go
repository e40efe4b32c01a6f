package sql_test

import (
	"strings"
	"testing"

	"relstore/api"
)

// wrong texts: a ^ stands ahead of the first token with which the tokens so far are no beginning of any script. It is no part of the text.
func wrong() []string {
	return []string{
		// scripts
		"^x", "^1", "^'x'", "^(select 1)", "^from t", "^values (1)", "^end", "^*", "^;", "begin ^x", "begin;^;", "begin; ^1", "begin; select^", "commit ^1", "begin ^commit", "select 1 ^)",
		// items
		"select^", "select ^", "select ^;", "select ^from t", "select ^)", "select ^where a", "select ^, a", "select distinct^", "select distinct ^distinct", "select ^all 1", "select 1,^", "select 1, ^,",
		"select 1 ^1", "select 1 x ^y", "select 1 as^", "select 1 as ^1", "select 1 as ^from", "select * ^x", "select * ^as x", "select t.* ^x", "select * ^+ 1", "select t.* ^+ 1", "select t.*^.a",
		// names
		"select t.^", "select t.^1", "select t.^(", "select t.^'x'", "select t.^null", "select t.a^.b", "select t.a^(b)", "select 1 + t.^*", "select (t.^*)", "select f(t.^*)", "select - ^*", "select 1, 2 + ^*", "select 1^.x", "select 'x'^.x", "select (^*)", "select ^.a",
		// functions
		"select f(^*)", "select f(a, ^*)", "select f(^distinct a)", "select f(a,^)", "select f(^,a)", "select f(a ^b)", "select f(^as a)", "select f(a^", "select f()^()", "select f() x^()",
		"select count(^)", "select count(*^, a)", "select count(a^, b)", "select count(distinct ^*)", "select count(distinct^", "select count(distinct a^, b)", "select count(^all a)", "select count(* ^+ 1)", `select "count"(^)`, "select count ^distinct a", "select max(^", "select avg(^select 1)",
		// tests
		"select a = ^=", "select a = b ^= c", "select a < b ^> c", "select a = b ^is null", "select a is null ^is null", "select a is null ^= b", "select a is null ^|| b", "select a is ^a", "select a is not ^a", "select a is not ^not null", "select a is^", "select a is ^true", "select a ^null", "select a = ^in (b)",
		"select a not ^b", "select a not ^null", "select a not ^= b", "select a not ^is null", "select a not ^not in (b)", "select a not^", "select a not ^exists (select 1)", "select a like ^not b", "select a like b ^like c", "select a like^", "select a like b +^",
		"select a between b^", "select a between b ^or c", "select a between b and^", "select a between b and c ^between d and e", "select a between b ^= c and d", "select a between ^not b and c", "select a between b and ^not c", "select a between b and c and^",
		"select a in^", "select a in ^b", "select a in (^)", "select a in (b^", "select a in (b,^)", "select a in (b ^c)", "select a in (select 1^", "select a in (b, ^select 1)", "select a in (b) ^in (c)", "select a not in (b) ^= true", "select a in ((select 1) ^union select 2)", "select a in (select 1) ^+ 1",
		// operators
		"select not^", "select not ^and a", "select a = ^not b", "select a + ^not b", "select - ^not a", "select -^", "select - ^+ a", "select ^+ a", "select a and^", "select a and ^or b", "select a and b or^", "select a ||^", "select a * ^/ b", "select a + ^)", "select not a is null ^is null", "select not a = b ^= c",
		// parentheses
		"select (^)", "select (a^", "select (a^, b)", "select (a ^b)", "select (a ^as b)", "select a^)", "select ((a)^", "select (select 1^", "select (select 1 x ^y)", "select ((select 1)^, 2)", "select ((select 1) ^union select 2)", "select (a) ^(b)",
		// CASE, CAST, EXISTS
		"select case ^end", "select case^", "select case ^else 1 end", "select case a ^end", "select case a ^else 1 end", "select case a ^then 1 end", "select case when ^then 1 end", "select case when a ^end", "select case when a then ^end", "select case when a then b^", "select case when a then b ^then c end",
		"select case when a then b else ^end", "select case when a then b else c^", "select case when a then b else c ^when d then e end", "select case when a then b else c ^else d end", "select case a ^b when c then d end",
		"select cast^", "select cast ^a", "select cast(a^)", "select cast(a as^", "select cast(a as ^a)", "select cast(a as text^, b)", "select cast(a as integer ^not null)", "select cast(^)", "select cast(a ^text)", "select cast(a as ^null)", "select cast(^select 1)",
		"select exists^", "select exists ^a", "select exists (^a)", "select exists (^)", "select exists (^(select 1))", "select exists ^select 1",
		// sources
		"select 1 from^", "select 1 from ^1", "select 1 from ^,", "select 1 from t,^", "select 1 from t, ^,", "select 1 from t ^'x'", "select 1 from t x ^y", "select 1 from t as^", "select 1 from t ^(a)", "select 1 from t^.u",
		"select 1 from (^t)", "select 1 from (^)", "select 1 from (select 1)^", "select 1 from (select 1) ^, t", "select 1 from (select 1) as^", "select 1 from (select 1) ^where a", "select 1 from (^(select 1)) x", "select 1 from ^select 1",
		"select 1 from t ^on a", "select 1 from t, u ^on a", "select 1 from t cross^", "select 1 from t cross ^u", "select 1 from t cross ^inner join u", "select 1 from t cross join u ^on a", "select 1 from t join u^", "select 1 from t join u ^where a", "select 1 from t join u ^join v", "select 1 from t join u on^",
		"select 1 from t inner^", "select 1 from t inner ^outer join u", "select 1 from t left^", "select 1 from t left ^u", "select 1 from t left ^inner join u", "select 1 from t left outer^", "select 1 from t left outer ^outer join u", "select 1 from t left join u^", "select 1 from t ^outer join u", "select 1 from t inner join u ^, v", "select 1 from t join u x ^y on a",
		// clauses
		"select 1 where^", "select 1 where a ^where b", "select 1 where a^, b", "select 1 group^", "select 1 group ^a", "select 1 group by^", "select 1 group by a,^", "select 1 group by a ^where b", "select 1 having^", "select 1 having a ^group by b", "select 1 where a ^from t", "select 1 having a ^having b",
		"select 1 union^", "select 1 union ^1", "select 1 union all^", "select 1 union ^distinct select 1", "select 1 union all ^all select 1", "select 1 intersect ^all select 1", "select 1 except ^all select 1", "select 1 union ^(select 1)", "select 1 intersect^",
		"select 1 order^", "select 1 order ^a", "select 1 order by^", "select 1 order by ^desc", "select 1 order by a desc ^asc", "select 1 order by a,^", "select 1 order by a ^b", "select 1 order by a ^union select 1", "select 1 order by a ^where b", "select 1 order by 1 ^order by 1", "select 1 order by ^*",
		"select 1 limit^", "select 1 limit ^-1", "select 1 limit ^a", "select 1 limit ^'1'", "select 1 limit ^(1)", "select 1 limit ^all", "select 1 limit ^null", "select 1 limit 1 ^, 2", "select 1 limit 1 ^+ 1", "select 1 limit 1 ^limit 1", "select 1 limit 1 offset^", "select 1 limit 1 offset ^-1", "select 1 ^offset 1", "select 1 limit 1 offset 1 ^limit 1", "select 1 limit 1 ^order by 1", "select 1 limit 1 ^union select 1",
		// statements that write
		"insert^", "insert ^t", "insert into^", "insert into ^(a)", "insert into t^", "insert into t ^x values (1)", "insert into t ^as x values (1)", "insert into t^.u select 1", "insert into t (^) values (1)", "insert into t (^select 1)", "insert into t (a^", "insert into t (a,^)", "insert into t (a^.b) values (1)", "insert into t (a)^", "insert into t (a) ^(b) values (1)", "insert into t (^1) values (1)",
		"insert into t values^", "insert into t values ^1", "insert into t values (^)", "insert into t values (1^", "insert into t values (1,^)", "insert into t values (1) ^(2)", "insert into t values (1),^", "insert into t values (1), ^values (2)", "insert into t ^default values", "insert into t values (^default)", "insert into t values (1) ^where a", "insert into t values (1) ^select 1", "insert into t ^set a = 1",
		"update^", "update ^set a = 1", "update t^", "update t ^x set a = 1", "update t set^", "update t set ^1 = 1", "update t set a^", "update t set a^.b = 1", "update t set a ^<> 1", "update t set a =^", "update t set a = 1,^", "update t set a = 1, ^where b", "update t set a = 1 ^b = 2", "update t set ^(a) = 1", "update t set a = ^default", "update t set a = b = c ^= d", "update t set a = 1 where^", "update t set a = 1 ^from u", "update t ^where a",
		"delete^", "delete ^t", "delete from^", "delete from ^where", "delete from t ^x", "delete from t^, u", "delete from t where^", "delete from t ^limit 1", "delete from t where a ^order by b",
		// tables
		"create^", "create ^x", "create table^", "create table ^(a integer)", "create table t^", "create table t ^as select 1", "create table t (^)", "create table t (^,", "create table t (a^", "create table t (a^)", "create table t (a ^int)", "create table t (a ^null)", "create table t (a integer^", "create table t (a integer,^)", "create table t (a integer ^b text)", "create table t (a integer)^)", "create table t (^1 integer)", "create table t (^select 1)", "create table t (a^.b integer)",
		"create table t (a integer not^", "create table t (a integer not ^unique)", "create table t (a integer ^null)", "create table t (a integer default^)", "create table t (a integer default ^a)", "create table t (a integer default -^)", "create table t (a integer default -^'x')", "create table t (a integer default - ^- 1)", "create table t (a integer default ^(1))", "create table t (a integer default ^+1)", "create table t (a integer default 1 ^+ 1)", "create table t (a integer default -^null)", "create table t (a integer default ^not null)",
		"create table t (a integer primary^)", "create table t (a integer primary ^unique)", "create table t (a integer ^key)", "create table t (a integer unique ^(a))", "create table t (a integer primary key ^(a))", "create table t (a integer unique ^key)", "create table t (a integer check^)", "create table t (a integer check ^a)", "create table t (a integer check (^))", "create table t (a integer check (a^, b))", "create table t (a integer check (^select 1))",
		"create table t (primary^)", "create table t (primary ^(a))", "create table t (primary key^)", "create table t (primary key ^a)", "create table t (primary key (^))", "create table t (primary key (a^", "create table t (primary key (a,^))", "create table t (primary key (a ^desc))", "create table t (unique^)", "create table t (unique ^a integer)", "create table t (unique (^1))", "create table t (check^)", "create table t (check ^a)", "create table t (check (a) ^not null)", "create table t (unique (a) ^unique (b))", "create table t (^not null)", "create table t (^key (a))",
		// indexes, and what is dropped
		"create unique^", "create unique ^table t (a integer)", "create unique ^unique index i on t (a)", "create index^", "create index ^on t (a)", "create index i^", "create index i ^t (a)", "create index i on^", "create index i on t^", "create index i on t ^a", "create index i on t (^)", "create index i on t (a^", "create index i on t (a ^desc)", "create index i on t (a^.b)", "create index i on t (^1)", "create index i on t (a) ^where b",
		"drop^", "drop ^t", "drop table^", "drop table if ^exists t", "drop table t^, u", "drop index^", "drop index i ^on t", "drop ^unique index i", "drop table ^1",
		// transactions
		"commit ^commit", "rollback ^a", "rollback to^", "rollback to ^savepoint a", "rollback to a ^b", "savepoint^", "savepoint ^1", "savepoint a^.b", "release^", "release ^savepoint a", "checkpoint ^a",
	}
}

// P15
func TestWrongTokens(t *testing.T) {
	for _, s := range wrong() {
		ahead, behind, _ := strings.Cut(s, "^")
		refused(t, ahead+behind, api.ErrSyntax, len(ahead))
		// It does not matter what stands behind it, be it a token or not.
		if behind != "" {
			refused(t, ahead+behind+" #", api.ErrSyntax, len(ahead))
		}
		// The statements ahead of it are not told.
		if s[0] != '^' {
			refused(t, "begin; select 1;"+ahead+behind, api.ErrSyntax, len("begin; select 1;"+ahead))
		}
		// The end is at the text's length, whatever stands ahead of it.
		if behind == "" {
			refused(t, ahead+" -- end", api.ErrSyntax, len(ahead+" -- end"))
			refused(t, ahead+"\n/**/\t", api.ErrSyntax, len(ahead+"\n/**/\t"))
		}
	}
}
