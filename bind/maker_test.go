package bind_test

import (
	"math/rand"
	"slices"
	"testing"

	"relstore/api"
	"relstore/bind"
	"relstore/sql"
)

// maker of statements that mean something, more or less: of a hundred things that it writes about wild are whatever comes.
type maker struct {
	r      *rand.Rand
	tables []api.Table
	wild   int
	stages []*stage // core by core, the innermost one last
}

// stage: a core that is being written.
type stage struct {
	columns []api.Expr
	kinds   []int
	groups  []api.Expr // of which the kinds are known, too
	grouped []int
	behind  bool // just what is grouped by may stand
	gather  bool // aggregates may stand
}

func pick[T any](m *maker, l ...T) T { return l[m.r.Intn(len(l))] }

// wildly: once in a while.
func (m *maker) wildly() bool { return m.r.Intn(100) < m.wild }

func (m *maker) oneIn(n int) bool { return m.r.Intn(n) == 0 }

func (m *maker) stage() *stage { return m.stages[len(m.stages)-1] }

func (m *maker) anyName() string {
	return pick(m, "a", "b", "c", "d", "e", "f", "g", "h", "H", "zz", "x", "column1", "column2", "q", "t", "u")
}

// kind that is wanted, as a rule.
func (m *maker) kind(kind int) int {
	if m.wildly() {
		return m.r.Intn(4)
	}
	return kind
}

func lit(kind int, n int64, s string) api.Expr {
	return api.Expr{Op: api.Lit, Value: api.Value{Kind: kind, N: n, S: s}}
}

func (m *maker) literal(kind int) api.Expr {
	switch kind {
	case api.Bool:
		return lit(api.Bool, int64(m.r.Intn(2)), "")
	case api.Int:
		return lit(api.Int, int64(m.r.Intn(4)), "")
	case api.Text:
		return lit(api.Text, 0, pick(m, "", "x", "y"))
	}
	return lit(api.Null, 0, "")
}

// of a kind: those of a list.
func ofKind(l []api.Expr, kinds []int, kind int, fits func(e api.Expr) bool) []api.Expr {
	var some []api.Expr
	for i, e := range l {
		if kinds[i] == kind && fits(e) {
			some = append(some, e)
		}
	}
	return some
}

// leaf: a column, what is grouped by, or a literal.
func (m *maker) leaf(kind int) api.Expr {
	if m.wildly() {
		return pick(m, api.Expr{Op: api.Col, Name: m.anyName()}, api.Expr{Op: api.Col, Table: m.anyName(), Name: m.anyName()})
	}
	out := 0
	for out+1 < len(m.stages) && m.oneIn(3) {
		out++
	}
	if len(m.stages) == 0 || m.oneIn(8) {
		return m.literal(pick(m, kind, kind, api.Null))
	}
	s := m.stages[len(m.stages)-1-out]
	columns := ofKind(s.columns, s.kinds, kind, func(api.Expr) bool { return true })
	if s.behind && !m.wildly() {
		columns = ofKind(s.groups, s.grouped, kind, func(e api.Expr) bool { return out == 0 || e.Op == api.Col })
	}
	if len(columns) == 0 {
		return m.literal(kind)
	}
	e := pick(m, columns...)
	if e.Op == api.Col && m.oneIn(2) {
		e.Table = "" // perhaps there is another one of its name
	}
	return e
}

func of(op int, parts ...api.Expr) api.Expr { return api.Expr{Op: op, Args: parts} }

// expr of a kind, as a rule.
func (m *maker) expr(kind, deep int) api.Expr {
	kind = m.kind(kind)
	if deep <= 0 || m.oneIn(4) {
		return m.leaf(kind)
	}
	sub := func(kind int) api.Expr { return m.expr(kind, deep-1) }
	if m.oneIn(2) {
		return m.common(kind, deep, sub)
	}
	switch kind {
	case api.Bool:
		return m.test(deep, sub)
	case api.Int:
		switch m.r.Intn(4) {
		case 0:
			return of(api.Neg, sub(api.Int))
		case 1:
			return api.Expr{Op: api.Func, Name: "length", Args: []api.Expr{sub(api.Text)}}
		case 2:
			return api.Expr{Op: api.Func, Name: "abs", Args: []api.Expr{sub(api.Int)}}
		}
		return of(pick(m, api.Add, api.Sub, api.Mul, api.Div, api.Mod), sub(api.Int), sub(api.Int))
	case api.Text:
		switch m.r.Intn(3) {
		case 0:
			return of(api.Concat, sub(api.Text), sub(api.Text))
		case 1:
			return api.Expr{Op: api.Func, Name: pick(m, "upper", "lower"), Args: []api.Expr{sub(api.Text)}}
		}
		e := api.Expr{Op: api.Func, Name: "substr", Args: []api.Expr{sub(api.Text), sub(api.Int)}}
		if m.oneIn(2) {
			e.Args = append(e.Args, sub(api.Int))
		}
		return e
	}
	return m.literal(api.Null)
}

// test: an expression that is a truth.
func (m *maker) test(deep int, sub func(kind int) api.Expr) api.Expr {
	k := 1 + m.r.Intn(3)
	switch m.r.Intn(8) {
	case 0:
		return of(api.Not, sub(api.Bool))
	case 1:
		return of(pick(m, api.And, api.Or), sub(api.Bool), sub(api.Bool))
	case 2:
		return of(api.Like, sub(api.Text), sub(api.Text))
	case 3:
		return of(api.IsNull, sub(k))
	case 4:
		return of(api.Between, sub(k), sub(k), sub(k))
	case 5:
		if m.oneIn(2) {
			return api.Expr{Op: api.In, Args: []api.Expr{sub(k)}, Sub: []api.Select{m.query([]int{k}, deep-1)}}
		}
		return of(api.In, sub(k), sub(k), sub(k))
	case 6:
		return api.Expr{Op: api.Exists, Sub: []api.Select{m.query([]int{k, k}[:1+m.r.Intn(2)], deep-1)}}
	}
	return of(api.Eq+m.r.Intn(6), sub(k), sub(k))
}

// common: what may be of any kind.
func (m *maker) common(kind, deep int, sub func(kind int) api.Expr) api.Expr {
	switch m.r.Intn(7) {
	case 0:
		return api.Expr{Op: api.Cast, Form: max(kind, 1), Args: []api.Expr{sub(m.r.Intn(4))}}
	case 1:
		e := api.Expr{Op: api.Func, Name: "coalesce", Args: []api.Expr{sub(kind)}}
		for m.oneIn(2) {
			e.Args = append(e.Args, sub(kind))
		}
		return e
	case 2:
		return api.Expr{Op: api.Func, Name: "nullif", Args: []api.Expr{sub(kind), sub(kind)}}
	case 3:
		return api.Expr{Op: api.Scalar, Sub: []api.Select{m.query([]int{kind}, deep-1)}}
	case 4:
		e := api.Expr{Op: api.Case, Form: m.r.Intn(4)}
		held := api.Bool
		if e.Form&1 != 0 {
			held = m.r.Intn(4)
			e.Args = append(e.Args, sub(held))
		}
		for range 1 + m.r.Intn(2) {
			e.Args = append(e.Args, sub(held), sub(kind))
		}
		if e.Form&2 != 0 {
			e.Args = append(e.Args, sub(kind))
		}
		return e
	case 5:
		if m.wildly() {
			return api.Expr{Op: api.Func, Name: pick(m, "nn", "length", "substr", "abs", "nullif"), Args: []api.Expr{sub(kind), sub(kind)}[:m.r.Intn(3)]}
		}
		return m.leaf(kind)
	}
	return m.aggregate(kind, sub)
}

// aggregate, where one may stand.
func (m *maker) aggregate(kind int, sub func(kind int) api.Expr) api.Expr {
	if !m.wildly() && (len(m.stages) == 0 || !m.stage().gather) {
		return m.leaf(kind)
	}
	if len(m.stages) > 0 {
		s := m.stage()
		was := *s
		s.behind, s.gather = false, false
		defer func() { s.behind, s.gather = was.behind, was.gather }()
	}
	if kind == api.Int && m.oneIn(2) {
		if m.oneIn(2) {
			return api.Expr{Op: api.Agg, Name: pick(m, "count", "count", "count", "count", "count", "sum"), Form: 2}
		}
		return api.Expr{Op: api.Agg, Name: pick(m, "sum", "avg"), Form: m.r.Intn(2), Args: []api.Expr{sub(api.Int)}}
	}
	return api.Expr{Op: api.Agg, Name: pick(m, "min", "max"), Form: m.r.Intn(2), Args: []api.Expr{sub(kind)}}
}

// query with columns of these kinds.
func (m *maker) query(kinds []int, deep int) api.Select {
	q := api.Select{Limit: -1}
	for len(q.Cores) == 0 || m.oneIn(6) && len(q.Cores) < 3 {
		if len(q.Cores) > 0 {
			q.Ops = append(q.Ops, 1+m.r.Intn(4))
		}
		ordered := len(q.Cores) == 0 && m.oneIn(3)
		q.Cores = append(q.Cores, api.Core{})
		c := &q.Cores[len(q.Cores)-1]
		m.stages = append(m.stages, &stage{})
		m.core(c, kinds, deep)
		if ordered {
			q.Order = m.order(kinds, deep, c)
		}
		m.stages = m.stages[:len(m.stages)-1]
	}
	return q
}

func (m *maker) order(kinds []int, deep int, c *api.Core) []api.Order {
	var l []api.Order
	for len(l) == 0 || m.oneIn(3) {
		var e api.Expr
		switch m.r.Intn(3) {
		case 0:
			e = lit(api.Int, int64(1+m.r.Intn(max(1, len(kinds)))), "")
			if m.wildly() {
				e.Value.N = int64(m.r.Intn(5))
			}
		case 1:
			e = api.Expr{Op: api.Col, Name: pick(m, "q", "column1", m.anyName())}
			if i := c.Items[0]; !m.wildly() && i.As != "" {
				e.Name = i.As
			}
		case 2:
			if c.Distinct && !m.wildly() {
				continue
			}
			e = m.expr(m.r.Intn(4), deep-1)
			if e.Op == api.Lit && e.Value.Kind == api.Int && !m.wildly() {
				continue
			}
		}
		l = append(l, api.Order{Expr: e, Desc: m.oneIn(2)})
	}
	return l
}

// core, written at the innermost stage, with columns of these kinds.
func (m *maker) core(c *api.Core, kinds []int, deep int) {
	s := m.stage()
	c.Distinct = m.oneIn(6)
	for n := m.r.Intn(4); n > 0; n-- {
		c.From = append(c.From, m.from(s, len(c.From), deep))
	}
	if m.oneIn(3) {
		c.Where = []api.Expr{m.expr(api.Bool, deep-1)}
	}
	if m.oneIn(3) {
		for len(c.Group) == 0 || m.oneIn(2) {
			k := m.r.Intn(4)
			e := m.expr(k, pick(m, 0, 0, deep-1))
			c.Group = append(c.Group, e)
			s.groups, s.grouped = append(s.groups, e), append(s.grouped, k)
		}
	}
	s.behind = len(c.Group) > 0 || m.oneIn(6)
	s.gather = s.behind || m.wildly()
	for _, k := range kinds {
		c.Items = append(c.Items, api.Item{Expr: m.expr(k, deep-1), As: pick(m, "", "", "q", "a", "b", "x")})
	}
	if m.wildly() {
		c.Items = append(c.Items, api.Item{Expr: m.expr(m.r.Intn(4), deep-1)})
	}
	if m.oneIn(25) || len(c.Items) == 0 {
		c.Items = append(c.Items[:max(0, len(c.Items)-1)], m.star(s))
	}
	if s.behind && m.oneIn(3) {
		c.Having = []api.Expr{m.expr(api.Bool, deep-1)}
	}
}

func (m *maker) star(s *stage) api.Item {
	i := api.Item{Star: true}
	if m.oneIn(2) && len(s.columns) > 0 {
		i.Table = pick(m, s.columns...).Table
	}
	if m.wildly() {
		i.Table = m.anyName()
	}
	return i
}

// from: one more source of a stage.
func (m *maker) from(s *stage, number, deep int) api.From {
	f := api.From{Join: api.Cross, As: string("xyzw"[number])}
	if m.wildly() {
		f.As = pick(m, "x", "y", "t", "u")
	}
	name := f.As
	if deep > 0 && m.oneIn(3) {
		f.Sub = []api.Select{m.sourceQuery(s, name, deep)}
	} else {
		t := pick(m, m.tables...)
		f.Table = t.Name
		if number == 0 && m.oneIn(2) {
			f.As, name = "", t.Name
		}
		for _, c := range t.Columns {
			s.columns, s.kinds = append(s.columns, api.Expr{Op: api.Col, Table: name, Name: c.Name}), append(s.kinds, c.Kind)
		}
		if m.wildly() && m.oneIn(4) {
			f.Table = "nn"
		}
	}
	if number > 0 && m.oneIn(2) {
		f.Join = pick(m, api.Inner, api.Left)
		f.On = []api.Expr{m.expr(api.Bool, deep-1)}
	}
	return f
}

// sourceQuery: a query that does not see its stage.
func (m *maker) sourceQuery(s *stage, name string, deep int) api.Select {
	var kinds []int
	for len(kinds) == 0 || m.oneIn(2) {
		kinds = append(kinds, m.r.Intn(4))
	}
	inner := m.stages
	m.stages = slices.Clone(m.stages[:len(m.stages)-1])
	q := m.query(kinds, deep-1)
	for m.oneIn(4) {
		q = m.starred(q)
	}
	m.stages = inner
	// What its columns are called is asked of what is tested: if that is wrong, names are.
	columns, _ := bind.Columns(m.tables, q)
	for _, c := range columns {
		s.columns, s.kinds = append(s.columns, api.Expr{Op: api.Col, Table: name, Name: c.Name}), append(s.kinds, c.Kind)
	}
	return q
}

// starred: a query over a query, of which it tells all columns, some of them more than once; and perhaps another one beside it that tells them in another order.
func (m *maker) starred(q api.Select) api.Select {
	star := func() api.Item { return api.Item{Star: true, Table: pick(m, "", "", "x")} }
	c := api.Core{Items: []api.Item{star()}, From: []api.From{{Join: api.Cross, Sub: []api.Select{q}, As: "x"}}}
	if m.oneIn(3) {
		c.From = append(c.From, api.From{Join: api.Cross, Table: pick(m, m.tables...).Name, As: "y"})
	}
	for m.oneIn(2) {
		c.Items = append(c.Items, pick(m, star(), star(), api.Item{Expr: m.literal(m.r.Intn(4)), As: pick(m, "", "q", "a")}))
	}
	whole := api.Select{Limit: -1, Cores: []api.Core{c}}
	for m.oneIn(4) {
		d := c
		d.Items = slices.Clone(c.Items)
		m.r.Shuffle(len(d.Items), func(i, j int) { d.Items[i], d.Items[j] = d.Items[j], d.Items[i] })
		whole.Cores, whole.Ops = append(whole.Cores, d), append(whole.Ops, 1+m.r.Intn(4))
	}
	if m.oneIn(4) {
		whole.Order = []api.Order{{Expr: lit(api.Int, int64(1+m.r.Intn(9)), "")}}
	}
	return whole
}

// statement of any kind, but those that say nothing.
func (m *maker) statement(deep int) api.Stmt {
	m.stages = nil
	t := pick(m, m.tables...)
	s := api.Stmt{Kind: pick(m, api.Query, api.Query, api.Query, api.Insert, api.Update, api.Delete, api.CreateTable, api.CreateIndex, api.DropTable, api.DropIndex), Table: t.Name}
	if m.wildly() {
		s.Table = "nn"
	}
	switch s.Kind {
	case api.Query:
		s.Table = ""
		q := m.query([]int{m.r.Intn(4), m.r.Intn(4), m.r.Intn(4)}[:1+m.r.Intn(3)], deep)
		for m.oneIn(3) {
			q = m.starred(q)
		}
		s.Query = []api.Select{q}
	case api.Insert:
		m.insert(&s, t, deep)
	case api.Update:
		m.enter(t)
		for len(s.Sets) == 0 || m.oneIn(2) {
			c := pick(m, t.Columns...)
			s.Sets = append(s.Sets, api.Set{Column: m.column(c.Name), Expr: m.expr(c.Kind, deep)})
		}
		s.Where = []api.Expr{m.expr(api.Bool, deep)}[:m.r.Intn(2)]
	case api.Delete:
		m.enter(t)
		s.Where = []api.Expr{m.expr(api.Bool, deep)}
	case api.CreateTable:
		m.createTable(&s, deep)
	case api.CreateIndex:
		s.Name = pick(m, "i", "I", "j", "k", "l")
		for len(s.Names) == 0 || m.oneIn(2) {
			s.Names = append(s.Names, m.column(pick(m, t.Columns...).Name))
		}
	case api.DropIndex:
		s.Table, s.Name = "", pick(m, "i", "I", "j", "t")
	}
	return s
}

// enter the stage that a statement's table is.
func (m *maker) enter(t api.Table) {
	s := &stage{}
	for _, c := range t.Columns {
		s.columns, s.kinds = append(s.columns, api.Expr{Op: api.Col, Table: t.Name, Name: c.Name}), append(s.kinds, c.Kind)
	}
	m.stages = []*stage{s}
}

// column's name, as a rule.
func (m *maker) column(name string) string {
	if m.wildly() {
		return m.anyName()
	}
	return name
}

func (m *maker) insert(s *api.Stmt, t api.Table, deep int) {
	var kinds []int
	for _, c := range t.Columns {
		kinds = append(kinds, c.Kind)
	}
	if m.oneIn(2) {
		kinds = nil
		for _, i := range m.r.Perm(len(t.Columns))[:1+m.r.Intn(len(t.Columns))] {
			s.Names, kinds = append(s.Names, m.column(t.Columns[i].Name)), append(kinds, t.Columns[i].Kind)
		}
	}
	if m.wildly() {
		kinds = append(kinds, api.Int)
	}
	if m.oneIn(2) {
		s.Query = []api.Select{m.query(kinds, deep)}
		return
	}
	for len(s.Rows) == 0 || m.oneIn(2) {
		var row []api.Expr
		for _, k := range kinds {
			row = append(row, m.expr(k, deep-1))
		}
		s.Rows = append(s.Rows, row)
	}
}

func (m *maker) createTable(s *api.Stmt, deep int) {
	s.Table = pick(m, "w", "w", "w", "w", "t")
	var columns []api.ColumnDef
	for _, name := range []string{"a", "b", "c", "d"}[:1+m.r.Intn(4)] {
		c := api.ColumnDef{Name: m.column(name), Kind: 1 + m.r.Intn(3), NotNull: m.oneIn(3)}
		if m.oneIn(3) {
			c.Default = []api.Value{m.literal(pick(m, m.kind(c.Kind), api.Null)).Value}
		}
		columns = append(columns, c)
	}
	s.Columns = columns
	for m.oneIn(2) {
		k := api.Key{Primary: m.oneIn(3)}
		for len(k.Columns) == 0 || m.oneIn(3) {
			k.Columns = append(k.Columns, m.column(pick(m, columns...).Name))
		}
		s.Keys = append(s.Keys, k)
	}
	m.enter(api.Table{Name: s.Table, Columns: columns})
	for m.oneIn(2) {
		s.Checks = append(s.Checks, m.expr(api.Bool, pick(m, 1, deep)))
	}
}

// held: what is tested must answer as the model does.
func held(t testing.TB, tables []api.Table, s api.Stmt) api.Errno {
	t.Helper()
	m := model{tables}
	want := m.check(s)
	if e := answered(t, tables, s); e != want {
		t.Errorf("%s: %v, not %v", sql.Print(s), e, want)
	}
	if s.Kind == api.Query {
		l, _ := bind.Columns(tables, s.Query[0])
		if columns, _ := m.query(nil, s.Query[0]); !same(l, columns) {
			t.Errorf("%s: %v, not %v", sql.Print(s), l, columns)
		}
	}
	return want
}

// P17: statements of all kinds, right ones and wrong ones.
func TestManyStatements(t *testing.T) {
	tables := made(t, schema)
	count := map[api.Errno]int{}
	grouped := 0
	for seed := range int64(4) {
		m := &maker{r: rand.New(rand.NewSource(seed)), tables: tables, wild: []int{0, 1, 2, 6}[seed]}
		for i := range 15000 {
			s := m.statement(1 + i%4)
			if l, e, _ := sql.Parse(sql.Print(s)); e != api.OK || !same(l, []api.Stmt{s}) {
				continue // it is too large, or such as Parse does not give
			}
			e := held(t, tables, s)
			count[e]++
			if s.Kind == api.Query && e == api.OK && len(s.Query[0].Cores[0].Group) > 0 {
				grouped++
			}
			if t.Failed() {
				return
			}
		}
	}
	for _, e := range []api.Errno{api.OK, api.ErrName, api.ErrType, api.ErrForm, api.ErrMissing, api.ErrExists} {
		if count[e] < 500 {
			t.Errorf("just %d of %v", count[e], e)
		}
	}
	if grouped < 300 {
		t.Errorf("just %d that are grouped and mean something", grouped)
	}
	t.Log(count, grouped)
}
