package relstore_test

import (
	"math/rand"
	"slices"
	"strconv"
	"strings"
	"testing"

	"relstore/api"
	"relstore/disk"
	"relstore/sql"
)

// maker of statements, of which most mean something.
type maker struct {
	r      *rand.Rand
	tables []api.Table // those that there are
	deep   int
}

// named column, as a statement tells it.
type named struct {
	text string
	kind int
}

func pick[T any](m *maker, l ...T) T { return l[m.r.Intn(len(l))] }

func (m *maker) oneIn(n int) bool { return m.r.Intn(n) == 0 }

func word(kind int) string { return []string{"", "boolean", "integer", "text"}[kind] }

func (m *maker) kind() int { return pick(m, api.Int, api.Int, api.Text, api.Bool) }

func (m *maker) literal(kind int) string {
	if m.oneIn(12) {
		return "null"
	}
	switch kind {
	case api.Bool:
		return pick(m, "true", "false")
	case api.Int:
		return pick(m, "0", "1", "2", "3", "4", "5", strconv.Itoa(m.r.Intn(40)), "9223372036854775807")
	}
	if m.oneIn(40) {
		return quoted(pick(m, 188, 189, 500, 1000))
	}
	return pick(m, "''", "'x'", "'y'", "'xY'", "'%'", "'a''b'")
}

// expr of a kind, over some columns.
func (m *maker) expr(kind int, columns []named) string {
	if m.oneIn(60) {
		kind = m.kind()
	}
	fitting := slices.DeleteFunc(slices.Clone(columns), func(c named) bool { return c.kind != kind })
	m.deep++
	defer func() { m.deep-- }()
	switch {
	case len(fitting) > 0 && (m.deep > 3 || m.oneIn(2)):
		return pick(m, fitting...).text
	case m.deep > 3 || m.oneIn(4):
		return m.literal(kind)
	case m.oneIn(12) && len(m.tables) > 0:
		return m.scalar(kind, columns)
	}
	of := func(k int) string { return m.expr(k, columns) }
	switch kind {
	case api.Int:
		return pick(m, "("+of(api.Int)+pick(m, " + ", " - ", " * ", " / ", " % ")+of(api.Int)+")", "(- "+of(api.Int)+")", "length("+of(api.Text)+")", "coalesce("+of(api.Int)+", "+of(api.Int)+")", "case when "+of(api.Bool)+" then "+of(api.Int)+" end", "cast("+of(api.Text)+" as integer)")
	case api.Text:
		return pick(m, "("+of(api.Text)+" || "+of(api.Text)+")", "upper("+of(api.Text)+")", "substr("+of(api.Text)+", "+of(api.Int)+")", "cast("+of(api.Int)+" as text)", "nullif("+of(api.Text)+", "+of(api.Text)+")")
	}
	return m.test(columns)
}

// test: an expression that is a truth.
func (m *maker) test(columns []named) string {
	k := m.kind()
	of := func(k int) string { return m.expr(k, columns) }
	switch m.r.Intn(8) {
	case 0:
		return "(" + of(api.Bool) + pick(m, " and ", " or ") + of(api.Bool) + ")"
	case 1:
		return "(not " + of(api.Bool) + ")"
	case 2:
		return "(" + of(k) + " is" + pick(m, "", " not") + " null)"
	case 3:
		return "(" + of(k) + " in (" + of(k) + ", " + of(k) + "))"
	case 4:
		if len(m.tables) > 0 {
			t := m.any()
			return pick(m, "(exists (select 1 from "+t.Name+" z where "+m.expr(api.Bool, slices.Concat(columns, columnsOf(t, "z")))+"))", "("+of(k)+" in "+m.scalar(k, columns)+")")
		}
	}
	return "(" + of(k) + pick(m, " = ", " = ", " = ", " <> ", " < ", " >= ") + of(k) + ")"
}

// any table.
func (m *maker) any() api.Table { return pick(m, m.tables...) }

// columnsOf a table, under a name.
func columnsOf(t api.Table, name string) []named {
	var l []named
	for _, c := range t.Columns {
		l = append(l, named{name + "." + c.Name, c.Kind})
	}
	return l
}

// scalar: a query of one column.
func (m *maker) scalar(kind int, columns []named) string {
	t := m.any()
	inner := columnsOf(t, "z")
	if kind == api.Int && m.oneIn(2) {
		return "(select " + pick(m, "count", "max", "min", "sum") + "(" + m.expr(api.Int, inner) + ") from " + t.Name + " z)"
	}
	return "(select " + m.expr(kind, slices.Concat(inner, columns)) + " from " + t.Name + " z" + pick(m, "", " where "+m.expr(api.Bool, slices.Concat(inner, columns))) + ")"
}

// where: none, or one.
func (m *maker) where(columns []named) string {
	switch {
	case m.oneIn(8):
		return ""
	case m.oneIn(2) && len(columns) > 0:
		return " where " + m.parts(columns)
	}
	return " where " + m.expr(api.Bool, columns)
}

// parts that must all be true; in most of them a column is told, and so perhaps a key.
func (m *maker) parts(columns []named) string {
	var l []string
	for range 1 + m.r.Intn(3) {
		c := pick(m, columns...)
		l = append(l, pick(m, c.text+" = "+m.expr(c.kind, nil), c.text+" = "+m.literal(c.kind), c.text+pick(m, " < ", " >= ", " <> ")+m.literal(c.kind), m.literal(c.kind)+" = "+pick(m, columns...).text, m.expr(api.Bool, columns)))
	}
	if len(l) == 3 && m.oneIn(2) {
		return l[0] + " and (" + l[1] + " and " + l[2] + ")"
	}
	return strings.Join(l, pick(m, " and ", " and ", " and ", " or "))
}

// plainColumns of a table: without its name.
func plainColumns(t api.Table) []named {
	var l []named
	for _, c := range t.Columns {
		l = append(l, named{c.Name, c.Kind})
	}
	return l
}

// small statement, which looks at a few rows.
func (m *maker) small() string {
	if len(m.tables) == 0 {
		return m.createTable()
	}
	t := m.any()
	columns := plainColumns(t)
	c := pick(m, t.Columns...)
	where := " where " + m.noQuery(func() string { return m.parts(columns) })
	switch m.r.Intn(6) {
	case 0:
		return "select * from " + t.Name + where
	case 1:
		return "select count(*) from " + t.Name + " x, " + t.Name + " y where x." + c.Name + " = " + m.literal(c.Kind) + " and y." + c.Name + " = " + m.literal(c.Kind)
	case 2:
		return "update " + t.Name + " set " + c.Name + " = " + m.literal(c.Kind) + where
	case 3:
		return "delete from " + t.Name + where + " and " + c.Name + " = " + m.literal(c.Kind)
	}
	var l []string
	for _, c := range t.Columns {
		l = append(l, m.literal(c.Kind))
	}
	return "insert into " + t.Name + " values (" + strings.Join(l, ", ") + ")"
}

func names(t api.Table, numbers []int) string {
	var l []string
	for _, n := range numbers {
		l = append(l, t.Columns[n].Name)
	}
	return strings.Join(l, ", ")
}

// numbers of some columns.
func (m *maker) numbers(t api.Table) []int {
	return m.r.Perm(len(t.Columns))[:1+m.r.Intn(3)/2*min(len(t.Columns)-1, 1)]
}

func (m *maker) createTable() string {
	t := api.Table{Name: pick(m, "t", "u", "v")}
	var parts []string
	for _, name := range []string{"a", "b", "c", "d"}[:1+m.r.Intn(4)] {
		c := api.ColumnDef{Name: name, Kind: m.kind()}
		t.Columns = append(t.Columns, c)
		parts = append(parts, name+" "+word(c.Kind)+pick(m, "", "", " not null", " default "+m.literal(c.Kind), " unique"))
	}
	columns := columnsOf(t, t.Name)
	for range m.r.Intn(3) {
		parts = append(parts, pick(m, "primary key ("+names(t, m.numbers(t))+")", "unique ("+names(t, m.numbers(t))+")", "check ("+m.noQuery(func() string { return m.expr(api.Bool, columns) })+")"))
	}
	return "create table " + t.Name + " (" + strings.Join(parts, ", ") + ")"
}

// noQuery: what is made while there are no tables to speak of.
func (m *maker) noQuery(make func() string) string {
	tables := m.tables
	m.tables = nil
	defer func() { m.tables = tables }()
	return make()
}

func (m *maker) insert() string {
	t := m.any()
	numbers := m.r.Perm(len(t.Columns))
	s := "insert into " + t.Name
	if m.oneIn(2) {
		numbers = numbers[:1+m.r.Intn(len(numbers))]
		s += " (" + names(t, numbers) + ")"
	} else {
		slices.Sort(numbers)
	}
	row := func(columns []named) string {
		var l []string
		for _, n := range numbers {
			l = append(l, m.expr(t.Columns[n].Kind, columns))
		}
		return strings.Join(l, ", ")
	}
	if m.oneIn(3) {
		u := m.any()
		return s + " select " + row(columnsOf(u, "y")) + " from " + u.Name + " y" + m.where(columnsOf(u, "y")) + pick(m, "", " limit 3")
	}
	var rows []string
	for range 1 + m.r.Intn(4) {
		rows = append(rows, "("+row(nil)+")")
	}
	return s + " values " + strings.Join(rows, ", ")
}

func (m *maker) update() string {
	t := m.any()
	columns := columnsOf(t, t.Name)
	var sets []string
	for _, n := range m.numbers(t) {
		sets = append(sets, t.Columns[n].Name+" = "+m.expr(t.Columns[n].Kind, columns))
	}
	return "update " + t.Name + " set " + strings.Join(sets, ", ") + m.where(columns)
}

func (m *maker) query() string {
	t, u := m.any(), m.any()
	x, y := columnsOf(t, "x"), columnsOf(u, "y")
	both := slices.Concat(x, y)
	switch m.r.Intn(8) {
	case 0:
		return "select * from " + t.Name + " x" + m.where(x)
	case 1:
		return "select " + m.expr(m.kind(), both) + ", x.* from " + t.Name + " x" + pick(m, ", "+u.Name+" y", " left join "+u.Name+" y on "+m.expr(api.Bool, both)) + m.where(both)
	case 2:
		c := pick(m, x...)
		return "select " + c.text + ", count(*), max(" + m.expr(m.kind(), x) + ") from " + t.Name + " x" + m.where(x) + " group by " + c.text + pick(m, "", " having "+m.expr(api.Bool, nil))
	case 3:
		return "select count(*) from " + t.Name + " x" + pick(m, " cross join "+u.Name+" y", " left join "+u.Name+" y on "+m.test(both), " join "+u.Name+" y on "+m.test(both)) + " where " + m.parts(both)
	case 4:
		return "select * from (select * from " + t.Name + m.where(plainColumns(t)) + ") as x, " + u.Name + " as y where " + m.parts(both)
	case 5:
		return "select 1 from " + t.Name + m.where(plainColumns(t)) + " order by " + m.expr(m.kind(), plainColumns(t)) + pick(m, "", " limit 0", " limit 2")
	}
	k := m.kind()
	return "select " + m.expr(k, x) + " from " + t.Name + " x" + m.where(x) + pick(m, " union ", " except ", " intersect ", " union all ") + "select " + m.expr(k, y) + " from " + u.Name + " y"
}

// statement of any kind.
func (m *maker) statement() string {
	if len(m.tables) == 0 || m.oneIn(25) {
		return m.createTable()
	}
	t := m.any()
	switch m.r.Intn(30) {
	case 0, 1:
		return "create " + pick(m, "", "unique ") + "index " + pick(m, "i", "j", "k") + " on " + t.Name + " (" + names(t, m.numbers(t)) + ")"
	case 2:
		return "drop index " + pick(m, "i", "j", "k")
	case 3:
		return pick(m, "drop table "+t.Name, "drop table "+pick(m, "t", "u", "v"), "checkpoint", "delete from "+t.Name)
	case 4, 5, 6:
		return "delete from " + t.Name + m.where(columnsOf(t, t.Name))
	case 7, 8, 9, 10, 11, 12:
		return m.update()
	case 13, 14, 15, 16, 17, 18, 19:
		return m.query()
	}
	return m.insert()
}

// bounded: a statement, but one that takes rows away from a database that has many: it does not grow on and on.
func (m *maker) bounded(by *model, statement func() string) string {
	m.tables = by.tables()
	text := statement()
	for _, r := range by.list {
		if len(r.rows) > 40 {
			return "delete from " + r.Name
		}
	}
	return text
}

// history of one database and its model: counts, of each kind of statement, how often each error came.
func history(t *testing.T, seed int64, count map[[2]int]int) {
	t.Helper()
	m := &maker{r: rand.New(rand.NewSource(seed))}
	d, by := disk.New(), newModel()
	c := opened(t, d, 8+m.r.Intn(10)).Session()
	for range 120 {
		text := m.bounded(by, m.statement)
		l, e, _ := sql.Parse(text)
		if e != api.OK || len(l) != 1 {
			t.Fatalf("%s: %v", text, e)
		}
		want := by.do(l[0])
		got := results(t, c, text)
		if len(got) != 1 || !same(got[0], want) {
			t.Fatalf("seed %d: %s:\n%s\nnot\n%s", seed, short(text), short(told(got)), short(told([]api.Result{want})))
		}
		bare(t, got[0])
		count[[2]int{l[0].Kind, int(want.Err)}]++
		if m.oneIn(15) {
			c = opened(t, d, 8+m.r.Intn(10)).Session()
		}
	}
	for _, x := range by.data() {
		got := results(t, c, "select * from "+x.Table.Name)
		slices.SortFunc(x.Rows, rowsOrder)
		if showRows(got[0].Rows) != showRows(x.Rows) {
			t.Fatalf("seed %d: %s: %s", seed, x.Table.Name, short(told(got)))
		}
	}
}

// P20: many histories, held against the model.
func TestHistories(t *testing.T) {
	t.Parallel()
	count := map[[2]int]int{}
	for seed := range int64(250) {
		history(t, seed, count)
	}
	for _, x := range []struct {
		kind   int
		errors []api.Errno
	}{
		{api.Query, []api.Errno{api.OK, api.ErrType}}, {api.Insert, []api.Errno{api.OK, api.ErrNull, api.ErrCheck, api.ErrLarge, api.ErrUnique, api.ErrType}}, {api.Update, []api.Errno{api.OK, api.ErrNull, api.ErrCheck, api.ErrUnique, api.ErrType}}, {api.Delete, []api.Errno{api.OK}},
		{api.CreateTable, []api.Errno{api.OK, api.ErrExists}}, {api.CreateIndex, []api.Errno{api.OK, api.ErrExists, api.ErrUnique}}, {api.DropTable, []api.Errno{api.OK, api.ErrMissing}}, {api.DropIndex, []api.Errno{api.OK, api.ErrMissing}},
	} {
		for _, e := range x.errors {
			if count[[2]int{x.kind, int(e)}] < 5 {
				t.Errorf("just %d statements of kind %d with %s", count[[2]int{x.kind, int(e)}], x.kind, errorName(e))
			}
		}
	}
}

func FuzzHistory(f *testing.F) {
	for seed := range int64(3) {
		f.Add(1000 + seed)
	}
	f.Fuzz(func(t *testing.T, seed int64) { history(t, seed, map[[2]int]int{}) })
}
