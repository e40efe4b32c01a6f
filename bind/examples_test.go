package bind_test

import (
	"testing"

	"relstore/api"
)

// P17: the examples of the document, as far as they tell of names and kinds.
func TestExamples(t *testing.T) {
	people := made(t, "create table p (id integer primary key, name text not null, boss integer)")
	for text, want := range map[string]string{
		"select x.name, y.name as boss from p x left join p y on x.boss = y.id order by boss desc, 1": "name:t boss:t",
		"select boss, count(*) as n, min(name) from p group by boss having count(*) > 1":              "boss:i n:i column3:t",
		"select name from p where exists (select 1 from p q where q.boss = p.id)":                     "name:t",
		"select avg(id), sum(id), count(boss), count(distinct boss) from p":                           "column1:i column2:i column3:i column4:i",
	} {
		expectColumns(t, people, text, columns(want)...)
	}
	numbers := made(t, "create table n (k integer)")
	for text, want := range map[string]string{
		"select k from n where (k <> 3) is null": "k:i", "select k from n union select 2 order by 1 desc limit 2 offset 1": "k:i", "select k from n except select 3": "k:i", "select k + 1 from n union all select null": "column1:i",
	} {
		expectColumns(t, numbers, text, columns(want)...)
	}
	two := made(t, "create table t (a integer, b integer, unique (a))")
	for _, x := range []told{
		{"update t set a = a + 1", api.OK}, {"delete from t where a in (select b + 1 from t where b < 3)", api.OK}, {"insert into t values (null, 4), (null, 5)", api.OK}, {"select a from t group by b", api.ErrForm}, {"create table t (a integer)", api.ErrExists},
	} {
		expect(t, two, x.text, x.want)
	}
	expect(t, nil, "select x from t", api.ErrMissing)
	expect(t, nil, "create table t (a integer, a text)", api.ErrExists)
	mixed := made(t, "create table t (a integer, b text default 'no', c boolean default true check (c))")
	expect(t, mixed, "insert into t (a) values (7)", api.OK)
	expect(t, mixed, "insert into t values (1, 2, true)", api.ErrType)
	expectColumns(t, mixed, "select upper(b) || '!', substr(b, 2), substr(b, 0, 2), length(b), nullif(a, 7), coalesce(null, a) from t", columns("column1:t column2:t column3:t column4:i column5:i column6:i")...)
	expectColumns(t, mixed, "select case when a > 5 then 'big' end, cast(a as text), a between 1 and 7, b like 'n%', -a % 4, a / 0, 9223372036854775807 + 1 from t", columns("column1:t column2:t column3:b column4:b column5:i column6:i column7:i")...)
}
