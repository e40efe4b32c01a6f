package sql_test

import (
	"math/rand"
	"slices"
	"strings"
	"testing"

	"relstore/api"
	"relstore/sql"
)

// P15: statements of all kinds, written in all ways, are read as they are.
// P16: and they are written so that they are read again.
func TestAnyStatements(t *testing.T) {
	m := maker{rand.New(rand.NewSource(16))}
	for i := range 12000 {
		w := &scribe{r: m.r, parens: []int{0, 10, 20, 40, 60}[i%5], dense: i%2 == 0}
		s := m.statement(i % 5)
		w.statement(s)
		source, _ := w.text()
		if len(source) > api.MaxSQL {
			continue
		}
		l := parsed(t, source)
		if !same(l, []api.Stmt{s}) {
			t.Fatalf("%s\nis read as\n%+v\nnot\n%+v", source, l, s)
		}
		again(t, source, s)
	}
}

// P16: where keys and checks stand in a table is another matter than which there are.
func TestAnyTables(t *testing.T) {
	m := maker{rand.New(rand.NewSource(17))}
	for range 10000 {
		s := api.Stmt{Kind: api.CreateTable}
		m.table(&s, m.leaf)
		w := &scribe{r: m.r, dense: true}
		w.statement(s)
		source, _ := w.text()
		if l := parsed(t, source); !same(l, []api.Stmt{s}) {
			t.Fatalf("%s\nis read as\n%+v\nnot\n%+v", source, l, s)
		}
		again(t, source, s)
	}
}

// again: a statement of a text, printed, must be read as it is; in no more bytes than the text has.
func again(t *testing.T, source string, s api.Stmt) {
	t.Helper()
	p := sql.Print(s)
	if len(p) > len(source) && !hasTwins(s) {
		t.Fatalf("%s\nis written in more bytes as\n%s", source, p)
	}
	if len(p) > api.MaxSQL {
		return
	}
	if l := parsed(t, p); !same(l, []api.Stmt{s}) {
		t.Fatalf("%s\nis written as\n%s\nand read as\n%+v\nnot\n%+v", source, p, l, s)
	}
	if sql.Print(s) != p || sql.Print(parsed(t, p)[0]) != p {
		t.Fatalf("%s is written in two ways", source)
	}
}

// hasTwins: a table with two columns of one name, which no store makes, may be written longer than it need be.
func hasTwins(s api.Stmt) bool {
	for i, c := range s.Columns {
		if slices.ContainsFunc(s.Columns[:i], func(d api.ColumnDef) bool { return d.Name == c.Name }) {
			return true
		}
	}
	return false
}

// P16: each of these is read, and written just so: with no more blanks, words and parentheses than it needs.
func TestPrint(t *testing.T) {
	for _, s := range []string{
		// expressions
		"select a", "select a.b", `select"A"."select"`, "select 1", "select-1", "select- -1", "select 1-2", "select 1- -2", "select'x'", "select'it''s'", "select''", "select null,true,false", "select 9223372036854775807",
		"select a or b and c", "select(a or b)and c", "select a or(b or c)", "select a or b or c", "select not a", "select not not a", "select not(a or b)", "select not a=b", "select(not a)=b", "select a=(not b)", "select(a=b)=c", "select a=(b=c)",
		"select(a is null)is null", "select not a is null", "select a||b||c", "select a||(b||c)", "select a+b-c", "select a-(b-c)", "select a*b+c/d%e", "select(a+b)*c", "select-(a+b)", "select-a+b", "select a<>b,a<=b,a>=b,a<b,a>b,a=b",
		"select a between b and c", "select(a between b and c)between(d=e)and(not f)", "select a like'x%'", "select a in(b)", "select a in(b,c or d)", "select a in(select b)", "select a in((select b))", "select not a in(b)", "select(a in(b))in(c)",
		"select exists(select a)", "select(select a)", "select f()", "select f(a,b)", `select"F"(a)`, `select"COUNT"(a)`, "select count(*),sum(a),min(distinct a)", "select cast(a as text),cast(a or b as integer),cast('x'as boolean)",
		"select case when a then b end", "select case a when b then c when d then e else f end", "select case'x'when'y'then'z'end",
		// queries
		"select*", "select distinct*,t.*", "select a b,1 c,'x'd,a or b e", `select a"B"`, `select"A" "B"`, "select*from t", "select*from t x", "select*from t,u,v x", "select*from t join u on a", "select*from t left join u x on a,v", "select*from(select a)x",
		"select a from t where b group by c,d having e", "select a union select b union all select c intersect select d except select e", "select a order by a,b desc", "select a limit 0", "select a limit 5 offset 6",
		// statements
		"insert into t values(1)", "insert into t values(1,2),(3)", "insert into t(a,b)values(1,2)", "insert into t(a)select 1", "insert into t select 1", "update t set a=1", "update t set a=b=c,b=not d where e", "delete from t", "delete from t where a", `delete from"T"where a`,
		"create index i on t(a)", "create unique index i on t(a,b)", "drop table t", "drop index i", "begin", "commit", "rollback", "rollback to a", "savepoint a", "release a", "checkpoint", `savepoint"b""c"`,
		// tables
		"create table t(a integer,b text,c boolean)", "create table t(a integer not null)", "create table t(a integer default-5)", "create table t(a integer default 5 not null)", "create table t(a text default'x'not null)", "create table t(a text default null)",
		"create table t(a integer unique)", "create table t(a integer primary key,b text)", "create table t(a integer,b text,primary key(a,b))", "create table t(unique(a))", "create table t(check(a),check(b))",
		"create table t(a integer check(a)check(b))", "create table t(a integer,b integer check(a)not null)", "create table t(a integer,b integer check(a)unique)", "create table t(a text default'x'check(a)unique)",
		"create table t(unique(c),a text unique,b text unique,c text)", "create table t(a text unique,unique(a,b),b text unique)", "create table t(a text unique unique,b text)", "create table t(a text unique,b text,unique(c),unique(a))",
		"create table t(unique(b),a text default'x'unique,b text)", "create table t(unique(aa),unique(x,y),unique(aa),bbbb text unique,aa text)",
	} {
		l := parsed(t, s)
		if p := sql.Print(l[0]); p != s {
			t.Errorf("%s\nis written as\n%s", s, p)
		}
	}
}

// P16: a statement of as many bytes as a text may have is written in no more.
func TestPrintOfTheLargest(t *testing.T) {
	for _, s := range []string{"select a in(1@)/,1", "select@1/ ", "create table t(a text@)/ unique", "create table t(a text check(b)@)/check(b)", "insert into t values(1)@/,(1)", "create table t(unique(c)@,c text)/,unique(c)", "select 1@/ union all select 1"} {
		around, many, _ := strings.Cut(s, "/")
		ahead, behind, _ := strings.Cut(around, "@")
		source := ahead + run(many, (api.MaxSQL-len(ahead+behind))/len(many)) + behind
		again(t, source, parsed(t, source)[0])
	}
}

// P16: two columns of one name.
func TestPrintOfTwins(t *testing.T) {
	for _, s := range []string{"create table t (a text unique, a integer)", "create table t (a text, a integer unique)", "create table t (a text, b text unique, a integer unique primary key, unique (b))"} {
		again(t, s, parsed(t, s)[0])
	}
}
