package query_test

import (
	"math/rand"
	"slices"
	"strings"
	"testing"

	"relstore/api"
	"relstore/bind"
	"relstore/query"
	"relstore/sql"
	"relstore/value"
)

// cell: a column of a row, and what stands there.
type cell struct {
	column api.Column
	value  api.Value
}

// wideQuery: a query of one row, and all its columns, one by one.
type wideQuery struct {
	text  string
	cells []cell
}

// weaver of queries with many columns.
type weaver struct {
	r    *rand.Rand
	ints bool // there is nothing but numbers and nulls
}

func (w *weaver) in(n int) int { return w.r.Intn(n) }

// item that is no star.
func (w *weaver) item() (string, api.Value) {
	n := w.in(10)
	switch {
	case n == 0:
		return "null", api.Value{}
	case n == 1 && !w.ints:
		return "'x'", api.Value{Kind: api.Text, S: "x"}
	case n == 2 && !w.ints:
		return "true", api.Value{Kind: api.Bool, N: 1}
	}
	return string(rune('0' + n)), api.Value{Kind: api.Int, N: int64(n)}
}

// over a query: one of these items, of which "*" is all of it, and any other one has no name.
func over(q wideQuery, items []string, values []api.Value) wideQuery {
	made := wideQuery{text: "select " + strings.Join(items, ", ") + " from (" + q.text + ") x"}
	for i, s := range items {
		if s == "*" {
			made.cells = append(made.cells, q.cells...)
			continue
		}
		name := "column" + itoa(len(made.cells)+1)
		made.cells = append(made.cells, cell{api.Column{Name: name, Kind: values[i].Kind}, values[i]})
	}
	return made
}

func itoa(n int) string { return value.Show(api.Value{Kind: api.Int, N: int64(n)}) }

// base of all: some columns of a table.
func (w *weaver) base() wideQuery {
	all := []cell{
		{api.Column{Name: "a", Kind: api.Int}, api.Value{Kind: api.Int, N: 11}}, {api.Column{Name: "b", Kind: api.Int}, api.Value{Kind: api.Int, N: 12}}, {api.Column{Name: "e", Kind: api.Int}, api.Value{}},
		{api.Column{Name: "c", Kind: api.Text}, api.Value{Kind: api.Text, S: "c"}}, {api.Column{Name: "d", Kind: api.Bool}, api.Value{Kind: api.Bool, N: 1}},
	}
	if w.ints {
		all = all[:3]
	}
	var q wideQuery
	var names []string
	for range 1 + w.in(3) {
		c := all[w.in(len(all))]
		names = append(names, c.column.Name)
		q.cells = append(q.cells, c)
	}
	q.text = "select " + strings.Join(names, ", ") + " from t"
	return q
}

// level more, of stars and other items.
func (w *weaver) level(q wideQuery) wideQuery {
	items, values := []string{"*"}, []api.Value{{}}
	for range 1 + w.in(3) {
		s, v := "*", api.Value{}
		if w.in(3) == 0 {
			s, v = w.item()
		}
		at := w.in(len(items) + 1)
		items, values = slices.Insert(items, at, s), slices.Insert(values, at, v)
	}
	return over(q, items, values)
}

// grown: a query of so many columns or more.
func (w *weaver) grown(least int) wideQuery {
	q := w.base()
	for len(q.cells) < least {
		q = w.level(q)
	}
	return q
}

// padded: a query with so many columns, if it has some fewer.
func (w *weaver) padded(q wideQuery, count int) (wideQuery, bool) {
	missing := count - len(q.cells)
	if missing > 400 {
		return q, false
	}
	items, values := []string{"*"}, []api.Value{{}}
	for range missing {
		s, v := w.item()
		at := w.in(2) * len(items)
		items, values = slices.Insert(items, at, s), slices.Insert(values, at, v)
	}
	return over(q, items, values), true
}

// shifted: two queries made alike, but for where a column stands that is told level by level.
func (w *weaver) shifted() (wideQuery, wideQuery) {
	x := w.base()
	y := x
	for len(x.cells) < 300 {
		s, v := w.item()
		items, values := []string{"*", "*", s}, []api.Value{{}, {}, v}
		x = over(x, items, values)
		if w.in(4) == 0 {
			items, values = []string{"*", s, "*"}, []api.Value{{}, v, {}}
		}
		y = over(y, items, values)
	}
	return x, y
}

// regrouped: the same columns, by stars in another order.
func (w *weaver) regrouped() (wideQuery, wideQuery) {
	x := w.base()
	y := x
	times := []int{2, 3, 2, 3, 4, 3}
	for _, n := range times {
		x = over(x, slices.Repeat([]string{"*"}, n), make([]api.Value, n))
	}
	w.r.Shuffle(len(times), func(i, j int) { times[i], times[j] = times[j], times[i] })
	for _, n := range times {
		y = over(y, slices.Repeat([]string{"*"}, n), make([]api.Value, n))
	}
	return x, y
}

// starred: all columns of a query, so many times.
func starred(q wideQuery, times int) wideQuery {
	return over(q, slices.Repeat([]string{"*"}, times), make([]api.Value, times))
}

// sparse: a query of so many columns, most of them null, and some of them this one.
func (w *weaver) sparse(count int, item string, v api.Value) wideQuery {
	var q wideQuery
	var items []string
	for i := range count {
		s, v := item, v
		if w.in(8) > 0 {
			s, v = "null", api.Value{}
		}
		items = append(items, s)
		q.cells = append(q.cells, cell{api.Column{Name: "column" + itoa(i+1), Kind: v.Kind}, v})
	}
	q.text = "select " + strings.Join(items, ", ")
	return q
}

// periodic: two queries that come again and again, in different steps.
func (w *weaver) periodic() (wideQuery, wideQuery) {
	step, more := 2+w.in(20), 1+w.in(3)
	pairs := [][2]int{{2, 3}, {3, 4}, {5, 2}, {7, 4}, {1, 6}, {5, 7}}
	n := pairs[w.in(len(pairs))]
	item := api.Value{Kind: api.Int, N: 7}
	x := w.sparse(step*n[0], "'x'", api.Value{Kind: api.Text, S: "x"})
	if w.ints {
		x = w.sparse(step*n[0], "7", item)
	}
	y := w.sparse(step*n[1], "7", item)
	x, y = starred(starred(x, n[1]), more), starred(starred(y, more), n[0])
	if w.in(2) == 0 {
		return over(x, []string{"*", "1"}, []api.Value{{}, {Kind: api.Int, N: 1}}), over(y, []string{"null", "*"}, []api.Value{{}, {}})
	}
	return x, y
}

// fused: a query of two that are alike: the row of the first one, of the kinds of both.
func fused(x, y wideQuery) (wideQuery, bool) {
	columns, _, ok := united([]wideQuery{x, y})
	q := wideQuery{text: x.text + " union all " + y.text + " where false"}
	for i, c := range columns {
		q.cells = append(q.cells, cell{c, x.cells[i].value})
	}
	return q, ok
}

// layered: two queries over others that have several cores, most of whose columns are null.
func (w *weaver) layered() (wideQuery, wideQuery) {
	var l []wideQuery
	for len(l) < 2 {
		x, y := w.periodic()
		if q, ok := fused(x, y); ok && len(q.cells) < 400 {
			l = append(l, q)
		}
	}
	x, y := over(l[0], []string{"*", "*", "null"}, make([]api.Value, 3)), starred(l[1], 1+w.in(3))
	if w.in(3) == 0 {
		y = over(l[0], []string{"*", "null", "*"}, make([]api.Value, 3))
	}
	if len(x.cells) > len(y.cells) {
		x, y = y, x
	}
	nulls := make([]string, len(y.cells)-len(x.cells)+1)
	for i := range nulls {
		nulls[i] = "null"
	}
	nulls[w.in(len(nulls))] = "*"
	x = over(x, nulls, make([]api.Value, len(nulls)))
	if w.in(2) == 0 {
		return y, x
	}
	return x, y
}

// two queries of as many columns.
func (w *weaver) two() (wideQuery, wideQuery) {
	switch w.in(8) {
	case 0:
		return w.shifted()
	case 1:
		return w.regrouped()
	case 2, 3:
		return w.periodic()
	case 4, 5:
		return w.layered()
	}
	for {
		x, y := w.grown(300), w.grown(300)
		if len(x.cells) > len(y.cells) {
			x, y = y, x
		}
		if x, ok := w.padded(x, len(y.cells)); ok && len(y.cells) < 4000 {
			if w.in(2) == 0 {
				return y, x
			}
			return x, y
		}
	}
}

// more: two queries, and a third one.
func (w *weaver) more(x, y wideQuery) []wideQuery {
	z := w.grown(200)
	if len(z.cells) <= len(x.cells) {
		if z, ok := w.padded(z, len(x.cells)); ok {
			return []wideQuery{x, y, z}
		}
	}
	return []wideQuery{x, y, x}
}

// united: the columns of all, and the row of each; false, if they are not alike.
func united(l []wideQuery) ([]api.Column, [][]api.Value, bool) {
	var columns []api.Column
	rows := make([][]api.Value, len(l))
	for i, c := range l[0].cells {
		for k, q := range l {
			d := q.cells[i]
			if c.column.Kind != api.Null && d.column.Kind != api.Null && c.column.Kind != d.column.Kind {
				return nil, nil, false
			}
			c.column.Kind = max(c.column.Kind, d.column.Kind)
			rows[k] = append(rows[k], d.value)
		}
		columns = append(columns, c.column)
	}
	slices.SortFunc(rows, value.Rows)
	return columns, rows, true
}

// P17, P18: unions of queries whose stars stand anyhow, held against their columns one by one.
func TestWideUnions(t *testing.T) {
	t.Parallel()
	data := base(t, "create table t (a integer, b integer, c text, d boolean, e integer); insert into t values (11, 12, 'c', true, null)")
	tables := tablesOf(data)
	counts := map[bool]int{}
	for seed := range 1600 {
		w := &weaver{rand.New(rand.NewSource(int64(seed))), seed%2 == 0}
		x, y := w.two()
		cores := []wideQuery{x, y}
		text := x.text + " union all " + y.text
		if seed%3 == 0 {
			cores = w.more(x, y)
			text += " union all " + cores[2].text
		}
		l, e, _ := sql.Parse(text)
		if e == api.ErrLarge {
			continue
		}
		columns, rows, ok := united(cores)
		counts[ok]++
		want := api.ErrType
		if ok {
			want = api.OK
		}
		if e := bind.Check(tables, l[0]); e != want {
			t.Fatalf("%d: Check: %v, not %v\n%.300s\n%.300s", seed, e, want, x.text, y.text)
		}
		got, e := bind.Columns(tables, l[0].Query[0])
		if e != want || !slices.Equal(got, columns) {
			t.Fatalf("%d: Columns: %v\n%.300s\n%.300s", seed, e, x.text, y.text)
		}
		answer, e := query.Answer(data, l[0].Query[0])
		if e != want || !slices.Equal(answer.Columns, columns) || !slices.EqualFunc(answer.Rows, rows, slices.Equal[[]api.Value]) {
			t.Fatalf("%d: Answer: %v\n%.300s\n%.300s", seed, e, x.text, y.text)
		}
		wider(t, data, w, text, columns, rows)
		byName(t, data, w, text, columns, rows)
	}
	if counts[true] < 300 || counts[false] < 300 {
		t.Error(counts)
	}
}

// wider: the union as a source, and in a union again.
func wider(t *testing.T, data []api.Data, w *weaver, text string, columns []api.Column, rows [][]api.Value) {
	t.Helper()
	if len(columns) == 0 || w.in(3) > 0 {
		return
	}
	l, e, _ := sql.Parse("select *, 5, * from (" + text + ") x union all select 6, *, * from (" + text + ") x")
	if e != api.OK {
		return
	}
	answer, e := query.Answer(data, l[0].Query[0])
	five, six := []api.Value{{Kind: api.Int, N: 5}}, []api.Value{{Kind: api.Int, N: 6}}
	var want [][]api.Value
	for _, r := range rows {
		want = append(want, slices.Concat(r, five, r), slices.Concat(six, r, r))
	}
	slices.SortFunc(want, value.Rows)
	kinds := slices.Concat(columns, []api.Column{{Kind: api.Int}}, columns)
	others := slices.Concat([]api.Column{{Kind: api.Int}}, columns, columns)
	for i := range kinds {
		if a, b := kinds[i].Kind, others[i].Kind; a != api.Null && b != api.Null && a != b {
			if e != api.ErrType {
				t.Fatalf("%v, not ErrType", e)
			}
			return
		}
	}
	if e != api.OK || !slices.EqualFunc(answer.Rows, want, slices.Equal[[]api.Value]) {
		t.Fatalf("wider: %v\n%.300s", e, text)
	}
	for i := range kinds {
		if i == len(columns) {
			kinds[i].Name = "column" + itoa(i+1)
		}
		kinds[i].Kind = max(kinds[i].Kind, others[i].Kind)
	}
	if got, e := bind.Columns(tablesOf(data), l[0].Query[0]); e != api.OK || !slices.Equal(got, kinds) {
		t.Fatalf("wider: Columns: %v\n%.300s", e, text)
	}
}

// byName: a column of the union by its name, if there are no two of it.
func byName(t *testing.T, data []api.Data, w *weaver, text string, columns []api.Column, rows [][]api.Value) {
	t.Helper()
	if len(columns) == 0 {
		return
	}
	at := w.in(len(columns))
	if w.in(2) == 0 {
		// Those that come once are few, and told by no star.
		at = max(0, slices.IndexFunc(columns, func(c api.Column) bool { return strings.HasPrefix(c.Name, "column") && count(columns, c.Name) == 1 }))
	}
	c := columns[at]
	l, e, _ := sql.Parse("select " + c.Name + " from (" + text + ") w")
	if e != api.OK {
		return
	}
	got, e := bind.Columns(tablesOf(data), l[0].Query[0])
	answer, f := query.Answer(data, l[0].Query[0])
	if count(columns, c.Name) > 1 {
		if e != api.ErrName || f != api.ErrName {
			t.Fatalf("%s: %v and %v\n%.300s", c.Name, e, f, text)
		}
		return
	}
	var want [][]api.Value
	for _, r := range rows {
		want = append(want, r[at:at+1])
	}
	slices.SortFunc(want, value.Rows)
	if e != api.OK || f != api.OK || !slices.Equal(got, []api.Column{c}) || !slices.Equal(answer.Columns, got) || !slices.EqualFunc(answer.Rows, want, slices.Equal[[]api.Value]) {
		t.Fatalf("%s: %v and %v, %v of %v\n%.300s", c.Name, e, f, answer, c, text)
	}
}

// count the columns of a name.
func count(columns []api.Column, name string) int {
	n := 0
	for _, c := range columns {
		if c.Name == name {
			n++
		}
	}
	return n
}

// nest: a query of these items over another one of them, and so on, so many times.
func nest(items string, deep int, q string) string {
	for range deep {
		q = "select " + items + " from (" + q + ") x"
	}
	return q
}

// P18: cores of more columns than could be written out, whose stars begin at different places, are held against one another just as those of few columns.
func TestEndlessUnions(t *testing.T) {
	data := base(t, "create table t (a integer, b integer); insert into t values (1, 2), (3, 4), (5, null)")
	for _, x := range []struct{ text, want string }{
		{"select count(*) from ($ union all #) w", "6"}, {"select count(*) from ($ union #) w", "5"}, {"select count(*) from ($ except #) w", "2"}, {"select count(*) from ($ intersect #) w", "1"},
		{"select sum(z) from ($ union all #) w", "12"}, {"select sum(z) from ($ union all # order by 2 desc, z limit 2) w", "6"}, {"select min(z) from ($ union all # order by 2 desc limit 1) w", "5"}, {"select exists ($ union all #)", "true"},
		{"select count(*) from (select distinct * from ($ union all #) w) v", "5"}, {"select count(*) from (select *, 5, * from ($ union all #) w union select 6, *, * from ($ union all #) w) v", "10"}, {"select z from ($ union all #) w where z = 3", "3"},
	} {
		for _, deep := range []int{1, 3, 24, 54} {
			n := nest("*, *", deep, "select a from t")
			text := strings.NewReplacer("$", "select *, *, 1 as z from ("+n+") x", "#", "select 1, *, * from ("+n+") x").Replace(x.text)
			r, e := query.Answer(data, asked(t, text))
			if e != api.OK || len(r.Rows) != 1 || value.Show(r.Rows[0][0]) != x.want {
				t.Errorf("%s, %d deep: %v %v, not %s", x.text, deep, r.Rows, e, x.want)
			}
		}
	}
}
