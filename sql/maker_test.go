package sql_test

import (
	"math"
	"math/rand"
	"strings"

	"relstore/api"
)

// maker of statements such as Parse gives.
type maker struct{ r *rand.Rand }

func pick[T any](m maker, l ...T) T { return l[m.r.Intn(len(l))] }

// some things; at least so many.
func some[T any](m maker, least int, make func() T) []T {
	var l []T
	for len(l) < least || m.r.Intn(5) > 2 && len(l) < 5 {
		l = append(l, make())
	}
	return l
}

// maybe one thing.
func maybe[T any](m maker, make func() T) []T {
	if m.r.Intn(3) > 0 {
		return nil
	}
	return []T{make()}
}

func (m maker) name() string {
	return pick(m, "a", "b", "c", "t", "u", "ab_1", "_", "abs", "x9", "count", "max", "A", "Select", "select", "key", "x y", `q"q`, `"`, "1", "a-b", "--", "/*", "it's", "ünï", "\x00\xff", "COUNT", "null")
}

func (m maker) alias() string {
	if m.r.Intn(2) == 0 {
		return ""
	}
	return m.name()
}

func (m maker) value() api.Value {
	return pick(m, api.Value{}, truth(false), truth(true), number(0), number(1), number(42), number(math.MaxInt64), text(""), text("x"), text("it's"), text("'"), text("\n--"), text("/*\"\x00\xff"))
}

func (m maker) expr(deep int) api.Expr {
	if deep <= 0 || m.r.Intn(5) == 0 {
		return m.leaf()
	}
	sub := func() api.Expr { return m.expr(deep - 1) }
	switch m.r.Intn(10) {
	case 0:
		return api.Expr{Op: pick(m, api.Neg, api.Not, api.IsNull), Args: []api.Expr{sub()}}
	case 1, 2, 3:
		return api.Expr{Op: api.Add + m.r.Intn(api.Like-api.Add+1), Args: []api.Expr{sub(), sub()}}
	case 4:
		return api.Expr{Op: api.Not, Args: []api.Expr{{Op: pick(m, api.IsNull, api.Not, api.Neg), Args: []api.Expr{sub()}}}}
	case 5:
		return m.not(api.Expr{Op: api.Between, Args: []api.Expr{sub(), sub(), sub()}})
	case 6:
		if m.r.Intn(2) == 0 {
			return m.not(api.Expr{Op: api.In, Args: []api.Expr{sub()}, Sub: []api.Select{m.query(deep - 1)}})
		}
		return m.not(api.Expr{Op: api.In, Args: append([]api.Expr{sub()}, some(m, 1, sub)...)})
	case 7:
		return api.Expr{Op: pick(m, api.Exists, api.Scalar), Sub: []api.Select{m.query(deep - 1)}}
	case 8:
		return m.choice(sub)
	}
	return m.called(sub)
}

func (m maker) not(e api.Expr) api.Expr {
	if m.r.Intn(2) == 0 {
		return e
	}
	return api.Expr{Op: api.Not, Args: []api.Expr{e}}
}

func (m maker) choice(sub func() api.Expr) api.Expr {
	e := api.Expr{Op: api.Case, Form: m.r.Intn(4)}
	for range 2*(1+m.r.Intn(2)) + e.Form&1 + e.Form>>1 {
		e.Args = append(e.Args, sub())
	}
	return e
}

func (m maker) called(sub func() api.Expr) api.Expr {
	switch m.r.Intn(3) {
	case 0:
		return api.Expr{Op: api.Cast, Form: 1 + m.r.Intn(3), Args: []api.Expr{sub()}}
	case 1:
		return api.Expr{Op: api.Func, Name: pick(m, "f", "abs", "x y", "COUNT", "select", "counts"), Args: some(m, 0, sub)}
	}
	return api.Expr{Op: api.Agg, Name: pick(m, "count", "sum", "min", "max", "avg"), Form: m.r.Intn(2), Args: []api.Expr{sub()}}
}

func (m maker) leaf() api.Expr {
	switch m.r.Intn(5) {
	case 0:
		return api.Expr{Op: api.Col, Table: m.name(), Name: m.name()}
	case 1, 2:
		return api.Expr{Op: api.Col, Name: m.name()}
	case 3:
		return api.Expr{Op: api.Lit, Value: m.value()}
	}
	return pick(m, api.Expr{Op: api.Agg, Name: "count", Form: 2}, api.Expr{Op: api.Func, Name: "f"}, api.Expr{Op: api.Lit, Value: number(7)})
}

func (m maker) query(deep int) api.Select {
	core := func() api.Core { return m.core(deep) }
	q := api.Select{Cores: some(m, 1, core), Limit: -1}
	for range q.Cores[1:] {
		q.Ops = append(q.Ops, 1+m.r.Intn(4))
	}
	if m.r.Intn(3) == 0 {
		q.Order = some(m, 1, func() api.Order { return api.Order{Expr: m.expr(deep - 1), Desc: m.r.Intn(2) == 0} })
	}
	if m.r.Intn(3) == 0 {
		q.Limit = pick[int64](m, 0, 1, 77, math.MaxInt64)
		q.Offset = pick[int64](m, 0, 0, 1, math.MaxInt64)
	}
	return q
}

func (m maker) core(deep int) api.Core {
	expr := func() api.Expr { return m.expr(deep - 1) }
	c := api.Core{Distinct: m.r.Intn(4) == 0, Where: maybe(m, expr), Having: maybe(m, expr)}
	c.Items = some(m, 1, func() api.Item {
		switch m.r.Intn(6) {
		case 0:
			return api.Item{Star: true}
		case 1:
			return api.Item{Star: true, Table: m.name()}
		}
		return api.Item{Expr: expr(), As: m.alias()}
	})
	c.From = some(m, 0, func() api.From { return m.from(deep) })
	if len(c.From) > 0 {
		c.From[0].Join = api.Cross
		c.From[0].On = nil
	}
	if m.r.Intn(4) == 0 {
		c.Group = some(m, 1, expr)
	}
	return c
}

func (m maker) from(deep int) api.From {
	f := api.From{Join: 1 + m.r.Intn(3), As: m.alias()}
	if deep > 0 && m.r.Intn(3) == 0 {
		f.Sub = []api.Select{m.query(deep - 1)}
		f.As = m.name()
	} else {
		f.Table = m.name()
	}
	if f.Join != api.Cross {
		f.On = []api.Expr{m.expr(deep - 1)}
	}
	return f
}

func (m maker) statement(deep int) api.Stmt {
	expr := func() api.Expr { return m.expr(deep) }
	s := api.Stmt{Kind: 1 + m.r.Intn(api.Checkpoint)}
	switch s.Kind {
	case api.Query:
		s.Query = []api.Select{m.query(deep)}
	case api.Insert:
		s.Table, s.Names = m.name(), some(m, 0, m.name)
		if m.r.Intn(2) == 0 {
			s.Query = []api.Select{m.query(deep)}
		} else {
			s.Rows = some(m, 1, func() []api.Expr { return some(m, 1, expr) })
		}
	case api.Update:
		s.Table, s.Where = m.name(), maybe(m, expr)
		s.Sets = some(m, 1, func() api.Set { return api.Set{Column: m.name(), Expr: expr()} })
	case api.Delete:
		s.Table, s.Where = m.name(), maybe(m, expr)
	case api.CreateTable:
		m.table(&s, expr)
	case api.CreateIndex:
		s.Name, s.Table, s.Names, s.Unique = m.name(), m.name(), some(m, 1, m.name), m.r.Intn(2) == 0
	case api.DropTable:
		s.Table = m.name()
	case api.DropIndex, api.Savepoint, api.Release:
		s.Name = m.name()
	case api.Rollback:
		s.Name = m.alias()
	}
	return s
}

func (m maker) table(s *api.Stmt, expr func() api.Expr) {
	s.Table = m.name()
	names := strings.Fields(`a b c "D" e_ ffff`)
	m.r.Shuffle(len(names), func(i, j int) { names[i], names[j] = names[j], names[i] })
	for _, name := range names[:m.r.Intn(len(names))] {
		c := api.ColumnDef{Name: name, Kind: 1 + m.r.Intn(3), NotNull: m.r.Intn(3) == 0, Default: maybe(m, m.value)}
		if len(c.Default) > 0 && c.Default[0].Kind == api.Int && m.r.Intn(2) == 0 {
			c.Default[0].N = -c.Default[0].N
		}
		s.Columns = append(s.Columns, c)
	}
	s.Keys = some(m, 0, func() api.Key {
		if m.r.Intn(4) == 0 {
			return api.Key{Primary: m.r.Intn(3) == 0, Columns: some(m, 1, m.name)}
		}
		return api.Key{Primary: m.r.Intn(3) == 0, Columns: []string{pick(m, names...)}}
	})
	s.Checks = some(m, 0, expr)
	if len(s.Columns)+len(s.Keys)+len(s.Checks) == 0 {
		s.Checks = []api.Expr{expr()}
	}
}
