package query_test

import (
	"math/rand"
	"slices"
	"strconv"
	"testing"

	"relstore/api"
	"relstore/bind"
	"relstore/query"
	"relstore/sql"
)

// library: t with 40 rows and a primary key; u with 30 rows and one of nulls, and indexes; v with 20 rows, and none.
func library(t testing.TB) []api.Data {
	s := "create table t (a integer primary key, b integer, c text, unique (c, b)); create table u (a integer, b integer, c integer); create index ua on u (a); create index ub on u (b); create index uab on u (b, a); create unique index uc on u (c); create table v (a integer, b integer); insert into t values (100, null, null)"
	for i := range 39 {
		s += ", (" + strconv.Itoa(i) + ", " + strconv.Itoa(i%10) + ", 'c" + strconv.Itoa(i%4) + "')"
	}
	s += "; insert into u values (null, null, null)"
	for i := range 30 {
		s += ", (" + strconv.Itoa(i%6) + ", " + strconv.Itoa(i%5) + ", " + strconv.Itoa(i) + ")"
	}
	s += "; insert into v values (null, null)"
	for i := range 19 {
		s += ", (" + strconv.Itoa(i%5) + ", " + strconv.Itoa(i) + ")"
	}
	return base(t, s)
}

// bound: a query, and how many rows may be handed out for it.
type bound struct {
	text string
	most int
}

func expectBounds(t *testing.T, data []api.Data, l []bound) {
	t.Helper()
	for _, x := range l {
		q := asked(t, x.text)
		w, r, e := watched(t, data, q)
		want, _ := query.Answer(data, q)
		if e != api.OK || !same(r, want) {
			t.Errorf("%s: %s (%v), not %s", x.text, shown(r.Rows), e, shown(want.Rows))
		}
		if w.rows > x.most {
			t.Errorf("%s: %d rows are handed out, not %d (all: %v, found: %v)", x.text, w.rows, x.most, w.alls, w.finds)
		}
	}
}

// P19: one table, and a condition that tells each column of a key or an index as equal to something without columns.
func TestRowsOfOneTable(t *testing.T) {
	expectBounds(t, library(t), []bound{
		{"select * from t where a = 7", 1}, {"select * from t where 7 = a", 1}, {"select * from t where 3 + 4 = a", 1}, {"select * from t where a = 77", 0}, {"select * from t where a = null", 0}, {"select * from t where null = a", 0}, {"select * from t where a = 1 / 0", 0}, {"select * from t x where x.a = -(-7)", 1}, {"select * from t where a in (7)", 1}, {"select * from t where a = coalesce(null, 7)", 1}, {"select * from t where a = case when true then 7 else 8 end", 1}, {"select * from t where a = cast('7' as integer)", 1},
		{"select * from t where c = 'c1' and a = 7", 1}, {"select * from t where a = 7 and c = 'c1'", 1}, {"select * from t where (b > 1 and (c like 'c%' and a = 7)) and b < 9", 1}, {"select * from t where a = 7 and a = 8", 1}, {"select * from t where a = 7 and (b = 1 or b = 7)", 1}, {"select * from t where a = b and b = 7", 1}, {"select * from t where a = b and b > 3", 40},
		{"select * from t where b = 3 and c = 'c3'", 2}, {"select * from t where c = 'c3' and 3 = b", 2}, {"select * from t where b = 3 and c = 'c2'", 0}, {"select * from t where b = 3 and c = null", 0}, {"select * from t where b = 3", 40}, {"select * from t where c = 'c3'", 40}, {"select * from t where a > 7", 40}, {"select * from t where a = 7 or a = 8", 40}, {"select * from t where not (a = 7)", 40}, {"select * from t where (a = 7) is null", 40}, {"select * from t where a + 0 = 7", 40}, {"select * from t", 40}, {"select * from t where a is null", 40}, {"select a + 1 from t where a = 7 order by b limit 1", 1}, {"select count(*), max(c) from t where a = 7", 1}, {"select b, count(*) from t where a = 7 group by b having count(*) > 5", 1}, {"select distinct c from t where a = 7", 1}, {"select max(b) from t where a = 7 having max(b) > 0", 1},
	})
}

// P19: of several keys and indexes that fit, one that finds no more than another one.
func TestBestIndex(t *testing.T) {
	expectBounds(t, library(t), []bound{
		{"select * from u where a = 1", 5}, {"select * from u where b = 1", 6}, {"select * from u where a = 1 and b = 1", 1}, {"select * from u where b = 1 and a = 1", 1}, {"select * from u where a = 1 and c = 7", 1}, {"select * from u where c = 7 and a = 1 and b = 2", 1}, {"select * from u where c = 7 and b = 2", 1}, {"select * from u where a = 1 and b = 99", 0}, {"select * from u where a is null and b = 1", 6},
	})
	// One that has all columns of another one, and more; one that finds one row at most; one of more columns.
	for _, indexes := range []string{"create unique index i on w (a); create index j on w (a, b)", "create index j on w (b, a); create unique index i on w (a)", "create index i on w (a); create unique index j on w (a, b)"} {
		expectBounds(t, base(t, "create table w (a integer, b integer, c integer); "+indexes+"; insert into w values (1, 1, 1), (2, 1, 1), (3, 1, 1)"), []bound{{"select * from w where a = 1 and b = 2", 0}, {"select * from w where b = 1 and a = 3", 1}})
	}
	for _, indexes := range []string{"create unique index i on w (a); create index j on w (b, c)", "create index j on w (b, c); create unique index i on w (a)"} {
		expectBounds(t, base(t, "create table w (a integer, b integer, c integer); "+indexes+"; insert into w values (1, 1, 1), (2, 1, 1), (3, 1, 1)"), []bound{{"select * from w where a = 1 and b = 1 and c = 1", 1}})
	}
	for _, indexes := range []string{"create index i on w (a); create index j on w (b, c)", "create index j on w (b, c); create index i on w (a)"} {
		expectBounds(t, base(t, "create table w (a integer, b integer, c integer); "+indexes+"; insert into w values (1, 1, 1), (1, 1, 2), (1, 1, 3)"), []bound{{"select * from w where a = 1 and b = 1 and c = 1", 1}})
	}
}

// P19: what was found by one key or index is not what another one finds.
func TestSameValues(t *testing.T) {
	expectBounds(t, library(t), []bound{
		{"select * from u x, u y where x.a = 1 and y.b = 1", 5 + 6}, {"select * from u x, u y where x.b = 1 and y.a = 1", 5 + 6}, {"select * from t x, u y where x.a = 1 and y.c = 1", 1 + 1}, {"select * from t x, u y, u z where x.a = 2 and y.c = 2 and z.a = 2", 1 + 1 + 5}, {"select * from u x, u y where x.a = 1 and y.a = 1", 5}, {"select (select count(*) from u where u.a = v.a), (select count(*) from u where u.b = v.a) from v", 20 + 25 + 30},
	})
}

// P19: several tables.
func TestRowsOfJoins(t *testing.T) {
	expectBounds(t, library(t), []bound{
		// By no key or index: the rows of both.
		{"select count(*) from t join v on t.b = v.b", 60}, {"select count(*) from t, v where t.b = v.b", 60}, {"select count(*) from v left join t on t.b = v.b", 60}, {"select count(*) from t x join t y on x.b = y.b", 80}, {"select count(*) from t, v", 60}, {"select count(*) from t, v where t.b < v.b", 60}, {"select count(*) from t x, t y, t z where x.b = y.b and y.b = z.b", 120}, {"select count(*) from v x, v y, v z", 60},
		// By a key or an index: those that it finds, for each row.
		{"select * from v join t on t.a = v.a", 20 + 5}, {"select * from v join t on v.a = t.a", 20 + 5}, {"select * from v, t where t.a = v.a", 20 + 5}, {"select * from v left join t on t.a = v.a", 20 + 5}, {"select * from v left join t on t.a = v.a and t.b > 2", 20 + 5}, {"select * from v join t on t.a = v.b * 2", 20 + 19}, {"select * from v join t on t.a = v.b + 1000", 20}, {"select * from v join t on t.a = v.a and v.b = 1", 20 + 1}, {"select * from v join t on t.a = v.a where v.b = 1", 20 + 1}, {"select * from v left join t on t.a = v.a where v.b = 1", 20 + 1}, {"select * from v left join t on t.a = v.a and v.b = 1", 20 + 1}, {"select * from v, t where t.a = v.a and v.b < 0", 20}, {"select * from v join t on t.a = v.a and t.b = 3", 20 + 5}, {"select * from v, u where u.b = v.a and u.a = v.b", 20 + 6}, {"select * from v x join v y on x.a = y.a join t on t.a = x.b", 20 + 20 + 19}, {"select * from v, t, u where t.a = v.b and u.c = t.a", 20 + 19 + 19}, {"select * from v left join t on t.a = v.b + 1000 left join u on u.c = t.a", 20},
		// What is known is known for all rows.
		{"select * from v, t where t.a = 7", 20 + 1}, {"select * from t, v where t.a = 7", 1 + 20}, {"select * from t, v where t.a = 77", 0}, {"select * from t left join u on u.c = t.a where t.a = 7", 1 + 1}, {"select * from t, u where t.a = 7 and u.c = t.a", 1 + 1}, {"select * from t, u where t.a = u.c and u.c = 7", 1 + 1}, {"select * from t, u where t.a = u.c and t.a = 7", 1 + 1}, {"select * from t join u on t.a = u.c where t.a = 7", 1 + 1}, {"select * from v left join t on v.a = t.b where t.a = 7", 20 + 1}, {"select * from v left join t on true where t.a = v.a", 20 + 5}, {"select * from t x, t y, t z where x.a = 1 and y.a = x.a and z.a = y.a", 3},
		// A condition without columns is known ahead of all.
		{"select * from t, v where false", 0}, {"select * from t where 1 = 2 and b = 3", 0}, {"select * from t where b in (select b from v) and a > 1000", 40}, {"select * from v left join t on false", 20}, {"select * from v left join t on null", 20},
		// Several cores.
		{"select a from t where a = 7 union select a from t where a = 8", 2}, {"select a from t union all select a from v", 60}, {"select a from t intersect select a from t where a = 8", 41},
	})
}

// P19: queries in expressions and those that are sources.
func TestRowsOfQueriesWithin(t *testing.T) {
	expectBounds(t, library(t), []bound{
		// One that speaks of nothing further out is answered once.
		{"select count(*) from t where b in (select b from v)", 60}, {"select count(*) from t where b = (select max(b) from v)", 60}, {"select count(*) from t where exists (select 1 from v where a = 3)", 60}, {"select a, (select count(*) from v) from t", 60}, {"select a from t order by (select max(a) from v), a", 60}, {"select b, count(*) from t group by b having count(*) > (select min(a) from v)", 60}, {"select sum((select max(a) from v)) from t", 60}, {"select * from t join u on t.b = u.b and t.a in (select a from v)", 40 + 31 + 20}, {"select * from t left join u on t.b = u.b and u.a in (select a from v)", 40 + 31 + 20}, {"select (select count(*) from t y where y.a = x.a and y.b in (select b from v)) from v x", 20 + 5 + 20}, {"select (select (select (select count(*) from v)) from t where a = x.a) from v x", 20 + 5 + 20},
		{"select * from t, (select a from v) x", 60}, {"select * from t join (select a, count(*) as n from v group by a) x on x.a = t.b", 60}, {"select * from (select b from v) x, t where t.a = x.b", 20 + 19}, {"select * from t, (select a from v) x, (select a from v) y where t.b = x.a and x.a = y.a", 40 + 20 + 20}, {"select * from t left join (select max(a) as a from v) x on x.a = t.b", 60}, {"select * from (select * from t where a = 7) x, (select * from t where a = 8) y", 2},
		{"select * from t where a = (select max(a) from v)", 20 + 1}, {"select * from t where (select min(b) from v) = a", 20 + 1}, {"select * from t where a = (select a from v where false)", 20}, {"select * from t where a = (select 7)", 1}, {"select * from t where a = 77 and b in (select b from v)", 20}, {"select * from t where a = 7 and a = (select max(b) from v)", 20 + 1},
		// One that does asks by a key or an index, too.
		{"select count(*) from v where exists (select 1 from t where t.a = v.a)", 20 + 5}, {"select a, (select c from t where t.a = v.b) from v", 20 + 19}, {"select (select count(*) from u where u.b = v.a and u.a = v.b) from v", 20 + 6}, {"select * from t x where x.a = 7 and exists (select 1 from t y where y.a = x.a)", 2}, {"select * from v where v.a in (select t.a from t where t.a = v.a)", 20 + 5},
		// Not even one that does asks for all rows again.
		{"select a, (select count(*) from v where v.a = t.b) from t", 60}, {"select * from t where a > (select count(*) from v where v.b < t.b)", 60},
	})
}

// P19: each source of a core is asked for all rows once at most while the core is answered once; what is asked by a key or an index is not.
func TestCalls(t *testing.T) {
	data := library(t)
	for _, x := range []struct {
		text        string
		alls, finds []int
	}{
		{"select * from t where a = 7", []int{0, 0, 0}, []int{1, 0, 0}},
		{"select * from t where b = 7", []int{1, 0, 0}, []int{0, 0, 0}},
		{"select * from v, t where t.a = v.b", []int{0, 0, 1}, []int{19, 0, 0}},
		{"select * from v x, v y", []int{0, 0, 2}, []int{0, 0, 0}},
		{"select 1", []int{0, 0, 0}, []int{0, 0, 0}},
		{"select * from t where a in (select a from v)", []int{1, 0, 1}, []int{0, 0, 0}},
		{"select * from t, (select count(*) from v) x", []int{1, 0, 1}, []int{0, 0, 0}},
	} {
		w, _, e := watched(t, data, asked(t, x.text))
		for i := range data {
			if e != api.OK || w.alls[i] > x.alls[i] || w.finds[i] > x.finds[i] {
				t.Errorf("%s: all: %v, found: %v (%v), not %v, %v", x.text, w.alls, w.finds, e, x.alls, x.finds)
			}
		}
	}
}

// tableRows: how many rows the tables have that a query names, each as often as it does; false: a query within speaks of what is further out.
func tableRows(data []api.Data, q *bind.Query) (int, bool) {
	n, alone := 0, len(q.Far) == 0
	add := func(q *bind.Query) {
		if q != nil {
			m, ok := tableRows(data, q)
			n, alone = n+m, alone && ok
		}
	}
	var terms func(l []bind.Term)
	terms = func(l []bind.Term) {
		for _, t := range l {
			add(t.Query)
			terms(t.Parts)
		}
	}
	for _, c := range q.Cores {
		for _, s := range c.Sources {
			add(s.Query)
			if s.Query == nil {
				n += len(data[s.Table].Rows)
			}
			terms(s.On)
		}
		terms(slices.Concat(c.Where, c.Group, c.Items, c.Having))
	}
	for _, o := range q.Order {
		terms([]bind.Term{o.Term})
	}
	return n, alone
}

// P19: many queries over a source that is watched: what is asked is right, and no more is handed out than may be.
func TestManyQueriesWatched(t *testing.T) {
	alone, finds := 0, 0
	m := &maker{r: rand.New(rand.NewSource(77))}
	for i := range 12000 {
		if i%10 == 0 {
			m.newData()
		}
		q := m.top(i % 4)
		text := sql.Print(api.Stmt{Kind: api.Query, Query: []api.Select{q}})
		made, e := bind.Resolve(tablesOf(m.data), q)
		if e != api.OK {
			continue
		}
		w, r, e := watched(t, m.data, q)
		want, f := query.Answer(m.data, q)
		if e != f || !same(r, want) {
			t.Fatalf("%s: %s (%v), not %s (%v)", text, shown(r.Rows), e, shown(want.Rows), f)
		}
		most, ok := tableRows(m.data, made)
		if ok && w.rows > most {
			t.Fatalf("%s: %d rows are handed out, not %d (all: %v, found: %v)", text, w.rows, most, w.alls, w.finds)
		}
		if t.Failed() {
			t.Fatal(text, m.data)
		}
		if ok {
			alone++
		}
		for _, n := range w.finds {
			finds += n
		}
	}
	if alone < 4000 || finds < 1000 {
		t.Errorf("just %d that are bounded, and %d that are found", alone, finds)
	}
}

// P19: many conditions over one table, or a join of two.
func TestManyBounds(t *testing.T) {
	m := &maker{r: rand.New(rand.NewSource(78))}
	found, both := 0, 0
	for i := range 6000 {
		if i%5 == 0 {
			m.newData()
		}
		n := m.r.Intn(len(m.data))
		x := m.data[n].Table
		c := api.Core{Items: []api.Item{{Star: true}}, From: []api.From{{Join: api.Cross, Table: x.Name}}}
		equal := map[int]api.Value{}
		for len(c.Where) == 0 || m.oneIn(2) {
			at := m.r.Intn(len(x.Columns))
			column, v := api.Expr{Op: api.Col, Name: x.Columns[at].Name}, m.literal(pick(m, x.Columns[at].Kind, x.Columns[at].Kind, x.Columns[at].Kind, api.Null))
			e := pick(m, of(api.Eq, column, v), of(api.Eq, v, column))
			if _, twice := equal[at]; twice || m.oneIn(5) {
				e = of(pick(m, api.Ne, api.Lt), column, v)
			} else {
				equal[at] = v.Value
			}
			if len(c.Where) > 0 {
				e = pick(m, of(api.And, c.Where[0], e), of(api.And, e, c.Where[0]))
			}
			c.Where = []api.Expr{e}
		}
		most, fits := mostFound(m.data[n], equal)
		q := api.Select{Limit: -1, Cores: []api.Core{c}}
		w, _, e := watched(t, m.data, q)
		if e != api.OK || w.rows > most {
			t.Fatalf("%s: %d rows are handed out, not %d (%v): %v", sql.Print(api.Stmt{Kind: api.Query, Query: []api.Select{q}}), w.rows, most, e, m.data[n])
		}
		if fits {
			found++
		}
		both += m.joinBound(t)
		if t.Failed() {
			return
		}
	}
	if found < 1000 || both < 1000 {
		t.Errorf("just %d and %d that fit", found, both)
	}
}

// mostFound: how many rows of a table any of its keys and indexes finds that fit these values; else how many it has.
func mostFound(d api.Data, equal map[int]api.Value) (int, bool) {
	most, fits := 0, false
	for _, columns := range indexes(d.Table) {
		var values []api.Value
		for _, c := range columns {
			if v, ok := equal[c]; ok {
				values = append(values, v)
			}
		}
		if len(values) == len(columns) {
			most, fits = max(most, len(found(d.Rows, columns, values))), true
		}
	}
	if !fits {
		return len(d.Rows), false
	}
	return most, true
}

// joinBound: a join of two tables by an equality of two columns.
func (m *maker) joinBound(t *testing.T) int {
	x, y := pick(m, m.data...), pick(m, m.data...)
	i, j := m.r.Intn(len(x.Table.Columns)), m.r.Intn(len(y.Table.Columns))
	if x.Table.Columns[i].Kind != y.Table.Columns[j].Kind {
		return 0
	}
	on := of(api.Eq, api.Expr{Op: api.Col, Table: "x", Name: x.Table.Columns[i].Name}, api.Expr{Op: api.Col, Table: "y", Name: y.Table.Columns[j].Name})
	c := api.Core{Items: []api.Item{{Star: true}}, From: []api.From{{Join: api.Cross, Table: x.Table.Name, As: "x"}, {Join: pick(m, api.Inner, api.Left), Table: y.Table.Name, As: "y", On: []api.Expr{on}}}}
	most, fits := len(x.Rows)+len(y.Rows), 0
	if slices.ContainsFunc(indexes(y.Table), func(columns []int) bool { return slices.Equal(columns, []int{j}) }) {
		fits, most = 1, len(x.Rows)
		for _, r := range x.Rows {
			most += len(found(y.Rows, []int{j}, []api.Value{r[i]}))
		}
	}
	q := api.Select{Limit: -1, Cores: []api.Core{c}}
	w, _, e := watched(t, m.data, q)
	if e != api.OK || w.rows > most || w.rows > len(x.Rows)+len(y.Rows) {
		t.Errorf("%s: %d rows are handed out, not %d (%v): %v, %v", sql.Print(api.Stmt{Kind: api.Query, Query: []api.Select{q}}), w.rows, most, e, x, y)
	}
	return fits
}
