package query_test

import (
	"testing"

	"relstore/api"
	"relstore/query"
)

const people = "create table p (id integer primary key, name text not null, boss integer); insert into p values (1, 'ada', null), (2, 'bo', 1), (3, 'cy', 1), (4, 'di', 2); create index i on p (boss)"

// P18: the document's examples 2, 3, 4 and 10.
func TestExamples(t *testing.T) {
	expectAll(t, base(t, people), []told{
		{"select x.name, y.name as boss from p x left join p y on x.boss = y.id order by boss desc, 1", "'di' 'bo', 'bo' 'ada', 'cy' 'ada', 'ada' null"},
		{"select boss, count(*) as n, min(name) from p group by boss having count(*) > 1", "1 2 'bo'"},
		{"select name from p where exists (select 1 from p q where q.boss = p.id)", "'ada', 'bo'"},
		{"select avg(id), sum(id), count(boss), count(distinct boss) from p", "2 10 3 2"},
	})
	expectAll(t, base(t, "create table n (k integer); insert into n values (null), (3), (1), (3)"), []told{
		{"select k from n where k <> 3", "1"}, {"select k from n where not (k <> 3)", "3, 3"}, {"select k from n where (k <> 3) is null", "null"},
		{"select k from n union select 2 order by 1 desc limit 2 offset 1", "2, 1"}, {"select k from n except select 3", "null, 1"}, {"select k from n intersect select k from n", "null, 1, 3"}, {"select k + 1 from n union all select null", "null, null, 2, 4, 4"},
	})
	expectAll(t, base(t, "create table t (a integer, b text, c boolean); insert into t values (7, 'no', true)"), []told{
		{"select upper(b) || '!', substr(b, 2), substr(b, 0, 2), length(b), nullif(a, 7), coalesce(null, a) from t", "'NO!' 'o' 'n' 2 null 7"},
		{"select case when a > 5 then 'big' end, cast(a as text), a between 1 and 7, b like 'n%', -a % 4, a / 0, 9223372036854775807 + 1 from t", "'big' '7' true true -3 null null"},
	})
}

// P18: the columns of a query.
func TestColumns(t *testing.T) {
	data := base(t, people)
	for text, want := range map[string][]api.Column{
		"select x.name, y.name as boss from p x left join p y on x.boss = y.id order by boss desc, 1": {{Name: "name", Kind: api.Text}, {Name: "boss", Kind: api.Text}},
		"select boss, count(*) as n, min(name) from p group by boss having count(*) > 1":              {{Name: "boss", Kind: api.Int}, {Name: "n", Kind: api.Int}, {Name: "column3", Kind: api.Text}},
		"select boss + 1 from p union all select null":                                                {{Name: "column1", Kind: api.Int}},
		"select null as x from p union all select 'x' as y limit 0":                                   {{Name: "x", Kind: api.Text}},
		"select * from p where false":                                                                 {{Name: "id", Kind: api.Int}, {Name: "name", Kind: api.Text}, {Name: "boss", Kind: api.Int}},
		"select null, true, *, * from (select 1) x":                                                   {{Name: "column1"}, {Name: "column2", Kind: api.Bool}, {Name: "column1", Kind: api.Int}, {Name: "column1", Kind: api.Int}},
	} {
		if r, e := query.Answer(data, asked(t, text)); e != api.OK || !same(r.Columns, want) {
			t.Errorf("%s: %v %v", text, r.Columns, e)
		}
	}
}
