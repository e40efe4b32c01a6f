package query_test

import (
	"math"
	"math/rand"
	"slices"

	"relstore/api"
	"relstore/bind"
)

// maker of data, and of queries over them, of which most mean something.
type maker struct {
	r      *rand.Rand
	data   []api.Data
	stages []*stage // core by core, the innermost one last
}

// stage: a core that is being written.
type stage struct {
	columns []api.Expr
	kinds   []int
	groups  []api.Expr // of which the kinds are known, too
	grouped []int
	behind  bool // just what is grouped by may stand
	gather  bool // aggregates may stand
}

func pick[T any](m *maker, l ...T) T { return l[m.r.Intn(len(l))] }

func (m *maker) oneIn(n int) bool { return m.r.Intn(n) == 0 }

// newData: tables with keys, indexes and few values, so that many are equal.
func (m *maker) newData() {
	m.data = nil
	for _, name := range []string{"t", "u", "v", "w", "s"} {
		x := api.Table{Name: name, Primary: -1}
		for _, c := range []string{"a", "b", "c", "d"}[:1+m.r.Intn(4)] {
			x.Columns = append(x.Columns, api.ColumnDef{Name: c, Kind: pick(m, api.Int, api.Int, api.Text, api.Bool)})
		}
		for range m.r.Intn(3) {
			x.Keys = append(x.Keys, m.numbers(len(x.Columns)))
		}
		for range m.r.Intn(3) {
			x.Indexes = append(x.Indexes, api.Index{Name: name, Columns: m.numbers(len(x.Columns)), Unique: m.oneIn(2)})
		}
		d := api.Data{Table: x}
		for range m.r.Intn(7) {
			var row []api.Value
			for _, c := range x.Columns {
				row = append(row, m.literal(pick(m, c.Kind, c.Kind, c.Kind, api.Null)).Value)
			}
			d.Rows = append(d.Rows, row)
		}
		m.data = append(m.data, d)
	}
}

// numbers of some columns.
func (m *maker) numbers(count int) []int { return m.r.Perm(count)[:1+m.r.Intn(3)/2*min(count-1, 1)] }

func lit(kind int, n int64, s string) api.Expr {
	return api.Expr{Op: api.Lit, Value: api.Value{Kind: kind, N: n, S: s}}
}

func (m *maker) literal(kind int) api.Expr {
	switch kind {
	case api.Bool:
		return lit(api.Bool, int64(m.r.Intn(2)), "")
	case api.Int:
		if m.oneIn(40) {
			return lit(api.Int, math.MaxInt64-int64(m.r.Intn(2)), "")
		}
		return lit(api.Int, int64(m.r.Intn(4)), "")
	case api.Text:
		return lit(api.Text, 0, pick(m, "", "x", "y", "xY", "%", "_"))
	}
	return lit(api.Null, 0, "")
}

// leaf: a column, what is grouped by, or a literal.
func (m *maker) leaf(kind int) api.Expr {
	out := 0
	for out+1 < len(m.stages) && m.oneIn(3) {
		out++
	}
	if len(m.stages) == 0 || m.oneIn(8) {
		return m.literal(pick(m, kind, kind, api.Null))
	}
	s := m.stages[len(m.stages)-1-out]
	l, kinds := s.columns, s.kinds
	if s.behind {
		l, kinds = s.groups, s.grouped
	}
	var some []api.Expr
	for i, e := range l {
		if kinds[i] == kind && (out == 0 || e.Op == api.Col) {
			some = append(some, e)
		}
	}
	if len(some) == 0 {
		return m.literal(kind)
	}
	return pick(m, some...)
}

func of(op int, parts ...api.Expr) api.Expr { return api.Expr{Op: op, Args: parts} }

func function(name string, parts ...api.Expr) api.Expr {
	return api.Expr{Op: api.Func, Name: name, Args: parts}
}

// expr of a kind.
func (m *maker) expr(kind, deep int) api.Expr {
	if deep <= 0 || m.oneIn(3) {
		return m.leaf(kind)
	}
	sub := func(kind int) api.Expr { return m.expr(kind, deep-1) }
	if m.oneIn(2) {
		return m.common(kind, deep, sub)
	}
	switch kind {
	case api.Bool:
		return m.test(deep, sub)
	case api.Int:
		switch m.r.Intn(4) {
		case 0:
			return of(api.Neg, sub(api.Int))
		case 1:
			return function("length", sub(api.Text))
		case 2:
			return function("abs", sub(api.Int))
		}
		return of(pick(m, api.Add, api.Sub, api.Mul, api.Div, api.Mod), sub(api.Int), sub(api.Int))
	case api.Text:
		switch m.r.Intn(3) {
		case 0:
			return of(api.Concat, sub(api.Text), sub(api.Text))
		case 1:
			return function(pick(m, "upper", "lower"), sub(api.Text))
		}
		return function("substr", []api.Expr{sub(api.Text), sub(api.Int), sub(api.Int)}[:2+m.r.Intn(2)]...)
	}
	return m.literal(api.Null)
}

// test: an expression that is a truth.
func (m *maker) test(deep int, sub func(kind int) api.Expr) api.Expr {
	k := 1 + m.r.Intn(3)
	switch m.r.Intn(9) {
	case 0:
		return of(api.Not, sub(api.Bool))
	case 1:
		return of(pick(m, api.And, api.Or), sub(api.Bool), sub(api.Bool))
	case 2:
		return of(api.Like, sub(api.Text), sub(api.Text))
	case 3:
		return of(api.IsNull, sub(k))
	case 4:
		return of(api.Between, sub(k), sub(k), sub(k))
	case 5:
		return api.Expr{Op: api.In, Args: []api.Expr{sub(k)}, Sub: []api.Select{m.query([]int{k}, deep-1)}}
	case 6:
		return of(api.In, []api.Expr{sub(k), sub(k), sub(k)}[:2+m.r.Intn(2)]...)
	case 7:
		return api.Expr{Op: api.Exists, Sub: []api.Select{m.query([]int{k, k}[:1+m.r.Intn(2)], deep-1)}}
	}
	return of(api.Eq+m.r.Intn(6), sub(k), sub(k))
}

// common: what may be of any kind.
func (m *maker) common(kind, deep int, sub func(kind int) api.Expr) api.Expr {
	switch m.r.Intn(6) {
	case 0:
		return api.Expr{Op: api.Cast, Form: max(kind, 1), Args: []api.Expr{sub(m.r.Intn(4))}}
	case 1:
		return function("coalesce", []api.Expr{sub(kind), sub(kind)}[:1+m.r.Intn(2)]...)
	case 2:
		return function("nullif", sub(kind), sub(kind))
	case 3:
		return api.Expr{Op: api.Scalar, Sub: []api.Select{m.query([]int{kind}, deep-1)}}
	case 4:
		e := api.Expr{Op: api.Case, Form: m.r.Intn(4)}
		held := api.Bool
		if e.Form&1 != 0 {
			held = m.r.Intn(4)
			e.Args = append(e.Args, sub(held))
		}
		for range 1 + m.r.Intn(2) {
			e.Args = append(e.Args, sub(held), sub(kind))
		}
		if e.Form&2 != 0 {
			e.Args = append(e.Args, sub(kind))
		}
		return e
	}
	return m.aggregate(kind, sub)
}

// aggregate, where one may stand.
func (m *maker) aggregate(kind int, sub func(kind int) api.Expr) api.Expr {
	if len(m.stages) == 0 || !m.stages[len(m.stages)-1].gather {
		return m.leaf(kind)
	}
	s := m.stages[len(m.stages)-1]
	was := *s
	s.behind, s.gather = false, false
	defer func() { s.behind, s.gather = was.behind, was.gather }()
	if kind == api.Int && m.oneIn(2) {
		switch m.r.Intn(3) {
		case 0:
			return api.Expr{Op: api.Agg, Name: "count", Form: 2}
		case 1:
			return api.Expr{Op: api.Agg, Name: "count", Form: m.r.Intn(2), Args: []api.Expr{sub(m.r.Intn(4))}}
		}
		return api.Expr{Op: api.Agg, Name: pick(m, "sum", "avg"), Form: m.r.Intn(2), Args: []api.Expr{sub(api.Int)}}
	}
	return api.Expr{Op: api.Agg, Name: pick(m, "min", "max"), Form: m.r.Intn(2), Args: []api.Expr{sub(kind)}}
}

// condition: some parts that must all be true, many of them equalities with columns.
func (m *maker) condition(deep int) api.Expr {
	var e api.Expr
	for e.Op == 0 || m.oneIn(2) {
		part := m.equality(deep)
		if m.oneIn(4) {
			part = m.expr(api.Bool, deep-1)
		}
		switch {
		case e.Op == 0:
			e = part
		case m.oneIn(2):
			e = of(api.And, e, part)
		default:
			e = of(api.And, part, e)
		}
	}
	return e
}

// equality of a column with something.
func (m *maker) equality(deep int) api.Expr {
	s := m.stages[len(m.stages)-1]
	if len(s.columns) == 0 {
		return m.expr(api.Bool, deep-1)
	}
	n := m.r.Intn(len(s.columns))
	x, y := s.columns[n], m.leaf(s.kinds[n])
	if m.oneIn(6) || same(x, y) {
		y = m.expr(s.kinds[n], deep-1)
	}
	if m.oneIn(2) {
		x, y = y, x
	}
	if m.oneIn(10) {
		return of(api.In, x, y)
	}
	return of(api.Eq, x, y)
}

// query with columns of these kinds.
func (m *maker) query(kinds []int, deep int) api.Select {
	q := api.Select{Limit: -1}
	for len(q.Cores) == 0 || m.oneIn(6) && len(q.Cores) < 3 {
		if len(q.Cores) > 0 {
			q.Ops = append(q.Ops, 1+m.r.Intn(4))
		}
		ordered := len(q.Cores) == 0 && m.oneIn(3)
		q.Cores = append(q.Cores, api.Core{})
		c := &q.Cores[len(q.Cores)-1]
		m.stages = append(m.stages, &stage{})
		m.core(c, kinds, deep)
		if ordered {
			q.Order = m.order(kinds, deep, c)
		}
		m.stages = m.stages[:len(m.stages)-1]
	}
	if m.oneIn(4) {
		q.Limit = int64(m.r.Intn(4))
		q.Offset = int64(pick(m, 0, 0, m.r.Intn(3)))
	}
	return q
}

func (m *maker) order(kinds []int, deep int, c *api.Core) []api.Order {
	var l []api.Order
	for len(l) == 0 || m.oneIn(3) {
		e := lit(api.Int, int64(1+m.r.Intn(len(kinds))), "")
		if i := c.Items[0]; i.As != "" && m.oneIn(3) {
			e = api.Expr{Op: api.Col, Name: i.As}
		}
		if !c.Distinct && m.oneIn(2) {
			if x := m.expr(m.r.Intn(4), deep-1); x.Op != api.Lit {
				e = x
			}
		}
		l = append(l, api.Order{Expr: e, Desc: m.oneIn(2)})
	}
	return l
}

// core, written at the innermost stage, with columns of these kinds.
func (m *maker) core(c *api.Core, kinds []int, deep int) {
	s := m.stages[len(m.stages)-1]
	c.Distinct = m.oneIn(6)
	for n := pick(m, 0, 1, 1, 1, 2, 2, 3); n > 0; n-- {
		c.From = append(c.From, m.from(s, len(c.From), deep))
	}
	if m.oneIn(2) {
		c.Where = []api.Expr{m.condition(deep)}
	}
	if m.oneIn(4) {
		for len(c.Group) == 0 || m.oneIn(2) {
			k := m.r.Intn(4)
			e := m.expr(k, pick(m, 0, 0, deep-1))
			c.Group = append(c.Group, e)
			s.groups, s.grouped = append(s.groups, e), append(s.grouped, k)
		}
	}
	s.behind = len(c.Group) > 0 || m.oneIn(6)
	s.gather = s.behind
	for _, k := range kinds {
		c.Items = append(c.Items, api.Item{Expr: m.expr(k, deep-1), As: pick(m, "", "", "q", "a", "b", "x")})
	}
	if s.behind && m.oneIn(3) {
		c.Having = []api.Expr{m.expr(api.Bool, deep-1)}
	}
	if s.behind && len(c.Group)+len(c.Having) == 0 {
		c.Items[0].Expr = api.Expr{Op: api.Agg, Name: "max", Args: []api.Expr{lit(kinds[0], 0, "")}}
	}
}

// from: one more source of a stage.
func (m *maker) from(s *stage, number, deep int) api.From {
	f := api.From{Join: api.Cross, As: string("xyzw"[number])}
	if deep > 0 && m.oneIn(3) {
		f.Sub = []api.Select{m.sourceQuery(s, f.As, deep)}
	} else {
		x := pick(m, m.data...).Table
		f.Table = x.Name
		for _, c := range x.Columns {
			s.columns, s.kinds = append(s.columns, api.Expr{Op: api.Col, Table: f.As, Name: c.Name}), append(s.kinds, c.Kind)
		}
	}
	if number > 0 && m.oneIn(3) {
		return f
	}
	if number > 0 {
		f.Join = pick(m, api.Inner, api.Left)
		f.On = []api.Expr{m.condition(deep)}
	}
	return f
}

// sourceQuery: a query that does not see its stage. Some tell the columns of a query once more, and more than once.
func (m *maker) sourceQuery(s *stage, name string, deep int) api.Select {
	var kinds []int
	for len(kinds) == 0 || m.oneIn(2) {
		kinds = append(kinds, m.r.Intn(4))
	}
	inner := m.stages
	m.stages = slices.Clone(m.stages[:len(m.stages)-1])
	q := m.query(kinds, deep-1)
	for m.oneIn(3) {
		q = m.starred(q)
	}
	m.stages = inner
	columns, _ := bind.Columns(tablesOf(m.data), q)
	for i, c := range columns {
		if slices.IndexFunc(columns, func(o api.Column) bool { return o.Name == c.Name }) == i {
			s.columns, s.kinds = append(s.columns, api.Expr{Op: api.Col, Table: name, Name: c.Name}), append(s.kinds, c.Kind)
		}
	}
	return q
}

// starred: a query over a query, of which it tells all columns, some of them twice.
func (m *maker) starred(q api.Select) api.Select {
	star := func() api.Item { return api.Item{Star: true, Table: pick(m, "", "", "x")} }
	c := api.Core{Items: []api.Item{star()}, From: []api.From{{Join: api.Cross, Sub: []api.Select{q}, As: "x"}}}
	if m.oneIn(2) {
		c.From = append(c.From, api.From{Join: api.Cross, Table: pick(m, m.data...).Table.Name, As: "y"})
	}
	for m.oneIn(2) {
		c.Items = append(c.Items, star())
	}
	if m.oneIn(3) {
		c.Items = append(c.Items, api.Item{Expr: lit(api.Int, 1, ""), As: "one"})
	}
	whole := api.Select{Limit: -1, Cores: []api.Core{c}}
	if m.oneIn(4) {
		// The same columns once more, or others, as the case may be.
		d := c
		d.Items = slices.Clone(c.Items)
		m.r.Shuffle(len(d.Items), func(i, j int) { d.Items[i], d.Items[j] = d.Items[j], d.Items[i] })
		whole.Cores = append(whole.Cores, d)
		whole.Ops = []int{1 + m.r.Intn(4)}
	}
	return whole
}

// top: a whole query.
func (m *maker) top(deep int) api.Select {
	m.stages = nil
	q := m.query([]int{m.r.Intn(4), m.r.Intn(4), m.r.Intn(4)}[:1+m.r.Intn(3)], deep)
	for m.oneIn(4) {
		q = m.starred(q)
	}
	return q
}
