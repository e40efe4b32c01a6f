package query_test

import (
	"math/big"
	"slices"
	"strconv"
	"strings"

	"relstore/api"
	"relstore/value"
)

// model: the document's words once more, in the plainest way: names are looked up for each row, each row stands beside each other one, nothing is known ahead of it.
type model struct {
	data []api.Data
	left int // how many steps it may still do; below 0: it has given up
}

// level: a core, at one of its rows.
type level struct {
	outer   *level
	sources []string // of each column
	names   []string
	row     []api.Value
	group   [][]api.Value // the rows of a group
	behind  bool          // one is behind the groups
}

func (l *level) column(e api.Expr) api.Value {
	for ; l != nil; l = l.outer {
		for i, n := range l.names {
			if n == e.Name && (e.Table == "" || e.Table == l.sources[i]) {
				if l.behind {
					return l.group[0][i]
				}
				return l.row[i]
			}
		}
	}
	panic("no column " + e.Name)
}

// step: one more; false: there were too many.
func (m *model) step() bool {
	m.left--
	return m.left >= 0
}

func yes(is bool) api.Value {
	if is {
		return api.Value{Kind: api.Bool, N: 1}
	}
	return api.Value{Kind: api.Bool}
}

func (m *model) value(l *level, e api.Expr) api.Value {
	if !m.step() {
		return api.Value{}
	}
	switch e.Op {
	case api.Lit:
		return e.Value
	case api.Col:
		return l.column(e)
	case api.Agg:
		return m.aggregate(l, e)
	case api.Case:
		return m.choice(l, e)
	}
	var p []api.Value
	for _, a := range e.Args {
		p = append(p, m.value(l, a))
	}
	var rows [][]api.Value
	if len(e.Sub) > 0 {
		rows = m.query(l, e.Sub[0])
	}
	switch e.Op {
	case api.Neg:
		return value.Neg(p[0])
	case api.Not:
		return value.Not(p[0])
	case api.Add, api.Sub, api.Mul, api.Div, api.Mod:
		return value.Reckon(e.Op, p[0], p[1])
	case api.Concat:
		return value.Concat(p[0], p[1])
	case api.And:
		return value.Both(p[0], p[1])
	case api.Or:
		return value.Either(p[0], p[1])
	case api.Like:
		return value.Like(p[0], p[1])
	case api.IsNull:
		return yes(p[0].Kind == api.Null)
	case api.Between:
		return value.Both(value.Test(api.Ge, p[0], p[1]), value.Test(api.Le, p[0], p[2]))
	case api.In:
		is := yes(false)
		for _, r := range rows {
			p = append(p, r[0])
		}
		for _, v := range p[1:] {
			is = value.Either(is, value.Test(api.Eq, p[0], v))
		}
		return is
	case api.Exists:
		return yes(len(rows) > 0)
	case api.Scalar:
		if len(rows) == 0 {
			return api.Value{}
		}
		return rows[0][0]
	case api.Cast:
		return value.Cast(p[0], e.Form)
	case api.Func:
		return m.function(e.Name, p)
	}
	return value.Test(e.Op, p[0], p[1])
}

func (m *model) choice(l *level, e api.Expr) api.Value {
	first := e.Form & 1
	for i := first; i+1 < len(e.Args); i += 2 {
		when := m.value(l, e.Args[i])
		if first == 1 {
			when = value.Test(api.Eq, m.value(l, e.Args[0]), when)
		}
		if when == yes(true) {
			return m.value(l, e.Args[i+1])
		}
	}
	if e.Form&2 != 0 {
		return m.value(l, e.Args[len(e.Args)-1])
	}
	return api.Value{}
}

func (m *model) function(name string, p []api.Value) api.Value {
	switch name {
	case "coalesce":
		for _, v := range p {
			if v.Kind != api.Null {
				return v
			}
		}
		return api.Value{}
	case "nullif":
		if value.Test(api.Eq, p[0], p[1]) == yes(true) {
			return api.Value{}
		}
		return p[0]
	}
	for _, v := range p {
		if v.Kind == api.Null {
			return api.Value{}
		}
	}
	switch name {
	case "length":
		return api.Value{Kind: api.Int, N: int64(len(p[0].S))}
	case "upper", "lower":
		var b []byte
		for _, c := range []byte(p[0].S) {
			if name == "upper" && c >= 'a' && c <= 'z' {
				c -= 32
			} else if name == "lower" && c >= 'A' && c <= 'Z' {
				c += 32
			}
			b = append(b, c)
		}
		return api.Value{Kind: api.Text, S: string(b)}
	case "abs":
		return whole(new(big.Int).Abs(big.NewInt(p[0].N)))
	}
	var b []byte
	for i, c := range []byte(p[0].S) {
		at := big.NewInt(int64(i) + 1)
		from := big.NewInt(p[1].N)
		if at.Cmp(from) < 0 || len(p) > 2 && at.Cmp(new(big.Int).Add(from, big.NewInt(p[2].N))) >= 0 {
			continue
		}
		b = append(b, c)
	}
	if len(p) > 2 && p[2].N < 0 {
		return api.Value{}
	}
	return api.Value{Kind: api.Text, S: string(b)}
}

// whole: a number, if it has 64 bits.
func whole(n *big.Int) api.Value {
	if !n.IsInt64() {
		return api.Value{}
	}
	return api.Value{Kind: api.Int, N: n.Int64()}
}

func (m *model) aggregate(l *level, e api.Expr) api.Value {
	if e.Form == 2 {
		return api.Value{Kind: api.Int, N: int64(len(l.group))}
	}
	var all []api.Value
	for _, row := range l.group {
		at := *l
		at.row, at.behind = row, false
		v := m.value(&at, e.Args[0])
		if v.Kind != api.Null && (e.Form != 1 || !slices.Contains(all, v)) {
			all = append(all, v)
		}
	}
	if e.Name == "count" {
		return api.Value{Kind: api.Int, N: int64(len(all))}
	}
	if len(all) == 0 {
		return api.Value{}
	}
	slices.SortFunc(all, value.Order)
	switch e.Name {
	case "min":
		return all[0]
	case "max":
		return all[len(all)-1]
	}
	sum := new(big.Int)
	for _, v := range all {
		sum.Add(sum, big.NewInt(v.N))
	}
	if e.Name == "avg" {
		sum.Quo(sum, big.NewInt(int64(len(all))))
	}
	return whole(sum)
}

// table of a name.
func (m *model) table(name string) api.Data {
	return m.data[slices.IndexFunc(m.data, func(d api.Data) bool { return d.Table.Name == name })]
}

// rows of a source of a core.
func (m *model) rows(l *level, f api.From) [][]api.Value {
	if len(f.Sub) > 0 {
		return m.query(l.outer, f.Sub[0])
	}
	return m.table(f.Table).Rows
}

// columns of a source of a core: their names.
func (m *model) columns(f api.From) []string {
	if len(f.Sub) > 0 {
		return m.names(f.Sub[0])
	}
	var names []string
	for _, c := range m.table(f.Table).Table.Columns {
		names = append(names, c.Name)
	}
	return names
}

func sourceName(f api.From) string {
	if f.As != "" {
		return f.As
	}
	return f.Table
}

// names of a query's columns.
func (m *model) names(q api.Select) []string {
	c := q.Cores[0]
	var l []string
	for _, i := range c.Items {
		switch {
		case i.Star:
			for _, f := range c.From {
				if i.Table == "" || i.Table == sourceName(f) {
					l = append(l, m.columns(f)...)
				}
			}
		case i.As != "":
			l = append(l, i.As)
		case i.Expr.Op == api.Col:
			l = append(l, i.Expr.Name)
		default:
			l = append(l, "column"+strconv.Itoa(len(l)+1))
		}
	}
	return l
}

// meets: is a condition true, if there is one?
func (m *model) meets(l *level, cond []api.Expr) bool {
	return len(cond) == 0 || m.value(l, cond[0]) == yes(true)
}

// join one more source.
func (m *model) join(l *level, rows [][]api.Value, f api.From) [][]api.Value {
	names, others := m.columns(f), m.rows(l, f)
	for _, n := range names {
		l.sources, l.names = append(l.sources, sourceName(f)), append(l.names, n)
	}
	var joined [][]api.Value
	for _, r := range rows {
		alone := true
		for _, o := range others {
			l.row = slices.Concat(r, o)
			if m.step() && m.meets(l, f.On) {
				joined = append(joined, l.row)
				alone = false
			}
		}
		if alone && f.Join == api.Left {
			joined = append(joined, slices.Concat(r, make([]api.Value, len(names))))
		}
	}
	return joined
}

// gathers: has an expression an aggregate that is not in a query within?
func gathers(e api.Expr) bool { return e.Op == api.Agg || slices.ContainsFunc(e.Args, gathers) }

// row of a core or a query, with what it is ordered by.
type row struct{ values, keys []api.Value }

func (m *model) core(outer *level, c api.Core, names []string, order []api.Order) []row {
	l := &level{outer: outer}
	rows := [][]api.Value{nil}
	for _, f := range c.From {
		rows = m.join(l, rows, f)
	}
	rows = slices.DeleteFunc(rows, func(r []api.Value) bool {
		l.row = r
		return !m.meets(l, c.Where)
	})
	grouped := len(c.Group)+len(c.Having) > 0
	for _, i := range c.Items {
		grouped = grouped || gathers(i.Expr)
	}
	for _, o := range order {
		grouped = grouped || gathers(o.Expr)
	}
	var made []row
	tell := func() {
		r := row{values: m.items(l, c)}
		for _, o := range order {
			r.keys = append(r.keys, m.key(l, o.Expr, names, r.values))
		}
		if !c.Distinct || !slices.ContainsFunc(made, func(o row) bool { return slices.Equal(o.values, r.values) }) {
			made = append(made, r)
		}
	}
	if !grouped {
		for _, r := range rows {
			l.row = r
			tell()
		}
		return made
	}
	for _, g := range m.groups(l, rows, c.Group) {
		l.group, l.behind = g, true
		if m.meets(l, c.Having) {
			tell()
		}
	}
	return made
}

func (m *model) groups(l *level, rows [][]api.Value, by []api.Expr) [][][]api.Value {
	if len(by) == 0 {
		return [][][]api.Value{rows}
	}
	var keys [][]api.Value
	var groups [][][]api.Value
	for _, r := range rows {
		l.row = r
		var key []api.Value
		for _, e := range by {
			key = append(key, m.value(l, e))
		}
		at := slices.IndexFunc(keys, func(k []api.Value) bool { return value.Rows(k, key) == 0 })
		if at < 0 {
			at = len(keys)
			keys, groups = append(keys, key), append(groups, nil)
		}
		groups[at] = append(groups[at], r)
	}
	return groups
}

func (m *model) items(l *level, c api.Core) []api.Value {
	var values []api.Value
	for _, i := range c.Items {
		if !i.Star {
			values = append(values, m.value(l, i.Expr))
			continue
		}
		row := l.row
		if l.behind {
			row = l.group[0]
		}
		for n, s := range l.sources {
			if i.Table == "" || i.Table == s {
				values = append(values, row[n])
			}
		}
	}
	return values
}

// key: what a row is ordered by.
func (m *model) key(l *level, e api.Expr, names []string, values []api.Value) api.Value {
	if e.Op == api.Lit && e.Value.Kind == api.Int {
		return values[e.Value.N-1]
	}
	if at := slices.Index(names, e.Name); e.Op == api.Col && e.Table == "" && at >= 0 {
		return values[at]
	}
	return m.value(l, e)
}

// has: is a row among others?
func has(l []row, r row) bool {
	return slices.ContainsFunc(l, func(o row) bool { return value.Rows(o.values, r.values) == 0 })
}

func once(l []row) []row {
	var some []row
	for _, r := range l {
		if !has(some, r) {
			some = append(some, r)
		}
	}
	return some
}

func (m *model) cores(outer *level, q api.Select) []row {
	names := m.names(q)
	if len(q.Cores) == 1 {
		return m.core(outer, q.Cores[0], names, q.Order)
	}
	rows := m.core(outer, q.Cores[0], nil, nil)
	for i, op := range q.Ops {
		others := m.core(outer, q.Cores[i+1], nil, nil)
		switch op {
		case api.Union:
			rows = once(append(rows, others...))
		case api.UnionAll:
			rows = append(rows, others...)
		case api.Intersect:
			rows = once(slices.DeleteFunc(rows, func(r row) bool { return !has(others, r) }))
		case api.Except:
			rows = once(slices.DeleteFunc(rows, func(r row) bool { return has(others, r) }))
		}
	}
	for i := range rows {
		rows[i].keys = nil
		for _, o := range q.Order {
			rows[i].keys = append(rows[i].keys, m.key(nil, o.Expr, names, rows[i].values))
		}
	}
	return rows
}

func (m *model) query(outer *level, q api.Select) [][]api.Value {
	rows := m.cores(outer, q)
	slices.SortFunc(rows, func(a, b row) int {
		for i, o := range q.Order {
			d := value.Order(a.keys[i], b.keys[i])
			if o.Desc {
				d = -d
			}
			if d != 0 {
				return d
			}
		}
		return value.Rows(a.values, b.values)
	})
	var l [][]api.Value
	for i, r := range rows {
		if int64(i) >= q.Offset && (q.Limit < 0 || int64(i)-q.Offset < q.Limit) {
			l = append(l, r.values)
		}
	}
	return l
}

// shown: rows as a text: values with blanks, rows with commas between.
func shown(l [][]api.Value) string {
	var rows []string
	for _, r := range l {
		var values []string
		for _, v := range r {
			s := value.Show(v)
			if v.Kind == api.Text {
				s = "'" + s + "'"
			}
			values = append(values, s)
		}
		rows = append(rows, strings.Join(values, " "))
	}
	return strings.Join(rows, ", ")
}
