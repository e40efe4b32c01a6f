package sql_test

import (
	"testing"

	"relstore/api"
)

// P15: scripts.
func TestScripts(t *testing.T) {
	begin, commit := api.Stmt{Kind: api.Begin}, api.Stmt{Kind: api.Commit}
	read(t, "")
	read(t, "begin", begin)
	read(t, "begin;", begin)
	read(t, "begin;commit", begin, commit)
	read(t, " begin ; commit ; ", begin, commit)
	read(t, run("begin;", 3), begin, begin, begin)
	refused(t, ";", api.ErrSyntax, 0)
	refused(t, " ;begin", api.ErrSyntax, 1)
	refused(t, "begin;;", api.ErrSyntax, 6)
	refused(t, "begin; ;commit", api.ErrSyntax, 7)
	refused(t, "begin commit", api.ErrSyntax, 6)
	refused(t, "begin;commit;;", api.ErrSyntax, 13)
	refused(t, "begin;x", api.ErrSyntax, 6)
	refused(t, "begin;commit;#", api.ErrSyntax, 13)
}

// P15: queries.
func TestQueries(t *testing.T) {
	one := items(num(1))
	star := []api.Item{{Star: true}}
	a, b := col("a"), col("b")
	from := func(l ...api.From) api.Select {
		l[0].Join = api.Cross
		return query(api.Core{Items: star, From: l})
	}
	sub := []api.Select{query(one)}
	for s, want := range map[string]api.Select{
		"select 1":                         query(one),
		"select distinct 1":                query(api.Core{Distinct: true, Items: one.Items}),
		"select *":                         query(api.Core{Items: star}),
		"select *, t.*, *":                 query(api.Core{Items: []api.Item{{Star: true}, {Star: true, Table: "t"}, {Star: true}}}),
		"select count.*, \"T\" . * from t": query(api.Core{Items: []api.Item{{Star: true, Table: "count"}, {Star: true, Table: "T"}}, From: []api.From{{Join: api.Cross, Table: "t"}}}),
		"select a b, a as c, a as \"as\"":  query(api.Core{Items: []api.Item{{Expr: a, As: "b"}, {Expr: a, As: "c"}, {Expr: a, As: "as"}}}),
		"select t.a b, t.a * b c":          query(api.Core{Items: []api.Item{{Expr: api.Expr{Op: api.Col, Table: "t", Name: "a"}, As: "b"}, {Expr: of(api.Mul, api.Expr{Op: api.Col, Table: "t", Name: "a"}, b), As: "c"}}}),
		"select a * b, a - b, a and b, a is null n, a(b) c, a.b = a": query(api.Core{Items: []api.Item{{Expr: of(api.Mul, a, b)}, {Expr: of(api.Sub, a, b)}, {Expr: of(api.And, a, b)}, {Expr: of(api.IsNull, a), As: "n"},
			{Expr: api.Expr{Op: api.Func, Name: "a", Args: []api.Expr{b}}, As: "c"}, {Expr: of(api.Eq, api.Expr{Op: api.Col, Table: "a", Name: "b"}, a)}}}),
		"select * from t":                                from(api.From{Table: "t"}),
		"select * from t x":                              from(api.From{Table: "t", As: "x"}),
		"select * from t as t":                           from(api.From{Table: "t", As: "t"}),
		"select * from t, u v":                           from(api.From{Table: "t"}, api.From{Join: api.Cross, Table: "u", As: "v"}),
		"select * from t cross join u as v":              from(api.From{Table: "t"}, api.From{Join: api.Cross, Table: "u", As: "v"}),
		"select * from t join u on a":                    from(api.From{Table: "t"}, api.From{Join: api.Inner, Table: "u", On: []api.Expr{a}}),
		"select * from t inner join u v on a":            from(api.From{Table: "t"}, api.From{Join: api.Inner, Table: "u", As: "v", On: []api.Expr{a}}),
		"select * from t left join u on a or b":          from(api.From{Table: "t"}, api.From{Join: api.Left, Table: "u", On: []api.Expr{of(api.Or, a, b)}}),
		"select * from t left outer join u on a, v":      from(api.From{Table: "t"}, api.From{Join: api.Left, Table: "u", On: []api.Expr{a}}, api.From{Join: api.Cross, Table: "v"}),
		"select * from (select 1) x":                     from(api.From{Sub: sub, As: "x"}),
		"select * from (select 1) as x, (select 1) y":    from(api.From{Sub: sub, As: "x"}, api.From{Join: api.Cross, Sub: sub, As: "y"}),
		"select * from t left join (select 1) as x on a": from(api.From{Table: "t"}, api.From{Join: api.Left, Sub: sub, As: "x", On: []api.Expr{a}}),
		"select 1 where a":                               query(api.Core{Items: one.Items, Where: []api.Expr{a}}),
		"select 1 group by a":                            query(api.Core{Items: one.Items, Group: []api.Expr{a}}),
		"select 1 group by a, b having a":                query(api.Core{Items: one.Items, Group: []api.Expr{a, b}, Having: []api.Expr{a}}),
		"select 1 having a":                              query(api.Core{Items: one.Items, Having: []api.Expr{a}}),
		"select 1 from t where a group by b having a":    query(api.Core{Items: one.Items, From: []api.From{{Join: api.Cross, Table: "t"}}, Where: []api.Expr{a}, Group: []api.Expr{b}, Having: []api.Expr{a}}),
		"select 1 union select 1":                        {Cores: []api.Core{one, one}, Ops: []int{api.Union}, Limit: -1},
		"select 1 union all select 1 union select 1":     {Cores: []api.Core{one, one, one}, Ops: []int{api.UnionAll, api.Union}, Limit: -1},
		"select 1 intersect select 1 except select 1":    {Cores: []api.Core{one, one, one}, Ops: []int{api.Intersect, api.Except}, Limit: -1},
		"select 1 order by a":                            {Cores: []api.Core{one}, Order: []api.Order{{Expr: a}}, Limit: -1},
		"select 1 order by a desc, b asc, a or b":        {Cores: []api.Core{one}, Order: []api.Order{{Expr: a, Desc: true}, {Expr: b}, {Expr: of(api.Or, a, b)}}, Limit: -1},
		"select 1 union select 1 order by 1 limit 5":     {Cores: []api.Core{one, one}, Ops: []int{api.Union}, Order: []api.Order{{Expr: num(1)}}, Limit: 5},
		"select 1 limit 0":                               {Cores: []api.Core{one}},
		"select 1 limit 3 offset 4":                      {Cores: []api.Core{one}, Limit: 3, Offset: 4},
		"select 1 limit 9223372036854775807 offset 0":    {Cores: []api.Core{one}, Limit: 9223372036854775807},
		"select (select 1 limit 1) limit 2":              {Cores: []api.Core{items(api.Expr{Op: api.Scalar, Sub: []api.Select{{Cores: []api.Core{one}, Limit: 1}}})}, Limit: 2},
	} {
		read(t, s, ask(want))
		read(t, "insert into t "+s, api.Stmt{Kind: api.Insert, Table: "t", Query: []api.Select{want}})
		read(t, "select exists ("+s+")", only(api.Expr{Op: api.Exists, Sub: []api.Select{want}}))
		read(t, "select ("+s+")", only(api.Expr{Op: api.Scalar, Sub: []api.Select{want}}))
		read(t, "select a in ("+s+")", only(api.Expr{Op: api.In, Args: []api.Expr{a}, Sub: []api.Select{want}}))
		read(t, "select * from ("+s+") x", ask(from(api.From{Sub: []api.Select{want}, As: "x"})))
	}
}

// P15: statements that write.
func TestWriting(t *testing.T) {
	a, b := col("a"), col("b")
	for s, want := range map[string]api.Stmt{
		"insert into t values (1)":                         {Kind: api.Insert, Table: "t", Rows: [][]api.Expr{{num(1)}}},
		"insert into t (a) values (1)":                     {Kind: api.Insert, Table: "t", Names: []string{"a"}, Rows: [][]api.Expr{{num(1)}}},
		"INSERT INTO \"T\"(a,\"B\",a)VALUES(a or b,1),(2)": {Kind: api.Insert, Table: "T", Names: []string{"a", "B", "a"}, Rows: [][]api.Expr{{of(api.Or, a, b), num(1)}, {num(2)}}},
		"insert into t(a, b) select 1":                     {Kind: api.Insert, Table: "t", Names: []string{"a", "b"}, Query: []api.Select{query(items(num(1)))}},
		"update t set a = 1":                               {Kind: api.Update, Table: "t", Sets: []api.Set{{Column: "a", Expr: num(1)}}},
		"update t set a = a = b, b = not a where a or b":   {Kind: api.Update, Table: "t", Sets: []api.Set{{Column: "a", Expr: of(api.Eq, a, b)}, {Column: "b", Expr: of(api.Not, a)}}, Where: []api.Expr{of(api.Or, a, b)}},
		"delete from t":                                    {Kind: api.Delete, Table: "t"},
		"delete from t where a":                            {Kind: api.Delete, Table: "t", Where: []api.Expr{a}},
	} {
		read(t, s, want)
	}
}

// P15: statements that say what becomes of others, and of tables and indexes.
func TestControl(t *testing.T) {
	for s, want := range map[string]api.Stmt{
		"begin":                            {Kind: api.Begin},
		"Commit":                           {Kind: api.Commit},
		"rollback":                         {Kind: api.Rollback},
		"rollback to a":                    {Kind: api.Rollback, Name: "a"},
		"savepoint A":                      {Kind: api.Savepoint, Name: "a"},
		"release \"A\"":                    {Kind: api.Release, Name: "A"},
		"checkpoint":                       {Kind: api.Checkpoint},
		"create index i on t (a)":          {Kind: api.CreateIndex, Name: "i", Table: "t", Names: []string{"a"}},
		"create unique index i on t(b, a)": {Kind: api.CreateIndex, Name: "i", Table: "t", Names: []string{"b", "a"}, Unique: true},
		"drop table t":                     {Kind: api.DropTable, Table: "t"},
		"drop index i":                     {Kind: api.DropIndex, Name: "i"},
	} {
		read(t, s, want)
	}
}

// P15: tables.
func TestTables(t *testing.T) {
	a, b := col("a"), col("b")
	key := func(names ...string) api.Key { return api.Key{Columns: names} }
	main := func(names ...string) api.Key { return api.Key{Primary: true, Columns: names} }
	column := func(l ...api.Value) []api.ColumnDef {
		return []api.ColumnDef{{Name: "a", Kind: api.Int, Default: l}}
	}
	for s, want := range map[string]api.Stmt{
		"a integer":                             {Columns: column()},
		"a boolean, \"B\" text":                 {Columns: []api.ColumnDef{{Name: "a", Kind: api.Bool}, {Name: "B", Kind: api.Text}}},
		"a integer not null":                    {Columns: []api.ColumnDef{{Name: "a", Kind: api.Int, NotNull: true}}},
		"a integer not null not null":           {Columns: []api.ColumnDef{{Name: "a", Kind: api.Int, NotNull: true}}},
		"a integer default 5":                   {Columns: column(number(5))},
		"a integer default -5":                  {Columns: column(number(-5))},
		"a integer default - 0":                 {Columns: column(number(0))},
		"a integer default-9223372036854775807": {Columns: column(number(-9223372036854775807))},
		"a integer default 'x'":                 {Columns: column(text("x"))},
		"a integer default ''":                  {Columns: column(text(""))},
		"a integer default true":                {Columns: column(truth(true))},
		"a integer default false":               {Columns: column(truth(false))},
		"a integer default null":                {Columns: column(api.Value{})},
		"a integer default 1 default 'x'":       {Columns: column(text("x"))},
		"a integer default 1 default null":      {Columns: column(api.Value{})},
		"a integer primary key":                 {Columns: column(), Keys: []api.Key{main("a")}},
		"a integer unique":                      {Columns: column(), Keys: []api.Key{key("a")}},
		"a integer unique primary key unique":   {Columns: column(), Keys: []api.Key{key("a"), main("a"), key("a")}},
		"a integer check (a or b)":              {Columns: column(), Checks: []api.Expr{of(api.Or, a, b)}},
		"a integer check (a) check (b)":         {Columns: column(), Checks: []api.Expr{a, b}},
		"a integer, primary key (a, b)":         {Columns: column(), Keys: []api.Key{main("a", "b")}},
		"a integer, unique (b)":                 {Columns: column(), Keys: []api.Key{key("b")}},
		"check (a), a integer":                  {Columns: column(), Checks: []api.Expr{a}},
		"unique (a)":                            {Keys: []api.Key{key("a")}},
		"check (a)":                             {Checks: []api.Expr{a}},
		"unique (x), check (b), a integer primary key check (a), unique (y, z), b text unique check (b) default 'd' not null, primary key (a), check (a)": {
			Columns: []api.ColumnDef{{Name: "a", Kind: api.Int}, {Name: "b", Kind: api.Text, NotNull: true, Default: []api.Value{text("d")}}},
			Keys:    []api.Key{key("x"), main("a"), key("y", "z"), key("b"), main("a")},
			Checks:  []api.Expr{b, a, b, a},
		},
	} {
		want.Kind, want.Table = api.CreateTable, "t"
		read(t, "create table t ("+s+")", want)
	}
}
