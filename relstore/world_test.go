package relstore_test

import (
	"slices"

	"relstore/api"
	"relstore/bind"
	"relstore/query"
	"relstore/value"
)

// world: a database of several sessions by the document's words. What a statement reads is found by what stands in it, table by table.
type world struct {
	now     *model
	commits []commit
	open    map[int]*trial // transactions, by their sessions
}

// commit that has turned something.
type commit struct {
	rows  []lineTurn
	names []string // of the tables whose definitions were turned
}

// lineTurn: a row of the table of this number, as it was and as it is (nil: it is not there).
type lineTurn struct {
	table         int
	before, after []api.Value
}

// trial: a transaction.
type trial struct {
	began       int // how many commits there were
	saw, sees   *model
	did         int // how many things it did that stand
	points      []trialPoint
	all         bool // all definitions were read
	names       []string
	reads       []rowsRead
	text, wants []string // what was told to it, and what came
}

type trialPoint struct {
	name string
	sees *model
	did  int
}

// rowsRead of the table of this number.
type rowsRead struct {
	table int
	meets func(row []api.Value) bool
}

func newWorld() *world { return &world{now: newModel(), open: map[int]*trial{}} }

// sees: what a session sees.
func (w *world) sees(session int) *model {
	if x := w.open[session]; x != nil {
		return x.sees
	}
	return w.now
}

func (w *world) begin() *trial {
	return &trial{began: len(w.commits), saw: w.now, sees: w.now.copied()}
}

// do a statement in a session: its result, and the transaction that it has ended, if it was committed.
func (w *world) do(session int, s api.Stmt) (api.Result, *trial) {
	x := w.open[session]
	r := api.Result{Kind: s.Kind}
	switch s.Kind {
	case api.Begin:
		if x != nil {
			r.Err = api.ErrState
			return r, nil
		}
		w.open[session] = w.begin()
	case api.Checkpoint:
		if x != nil {
			r.Err = api.ErrState
		}
	case api.Commit, api.Rollback, api.Savepoint, api.Release:
		if x == nil {
			r.Err = api.ErrState
			return r, nil
		}
		return w.steer(session, x, s)
	default:
		if x != nil {
			return x.do(s), nil
		}
		x = w.begin()
		r = x.do(s)
		if r.Err == api.OK {
			w.commit(x)
		}
		return r, x
	}
	return r, nil
}

func (w *world) steer(session int, x *trial, s api.Stmt) (api.Result, *trial) {
	r := api.Result{Kind: s.Kind}
	n := -1
	for i, p := range x.points {
		if p.name == s.Name {
			n = i
		}
	}
	switch {
	case s.Kind == api.Commit:
		delete(w.open, session)
		r.Err = w.commit(x)
		if r.Err != api.OK {
			x = nil
		}
		return r, x
	case s.Kind == api.Rollback && s.Name == "":
		delete(w.open, session)
	case s.Kind == api.Savepoint:
		x.points = append(x.points, trialPoint{s.Name, x.sees.copied(), x.did})
	case n < 0:
		r.Err = api.ErrMissing
	case s.Kind == api.Release:
		x.points = x.points[:n]
	default:
		x.sees, x.did = x.points[n].sees.copied(), x.points[n].did
		x.points = x.points[:n+1]
	}
	return r, nil
}

// conflicts: has a commit turned something that a transaction has read?
func (x *trial) conflicts(c commit) bool {
	if x.all && len(c.names) > 0 || slices.ContainsFunc(c.names, func(n string) bool { return slices.Contains(x.names, n) }) {
		return true
	}
	return slices.ContainsFunc(c.rows, func(t lineTurn) bool {
		return slices.ContainsFunc(x.reads, func(r rowsRead) bool {
			return r.table == t.table && (t.before != nil && r.meets(t.before) || t.after != nil && r.meets(t.after))
		})
	})
}

// commit a transaction.
func (w *world) commit(x *trial) api.Errno {
	if x.did == 0 {
		return api.OK
	}
	if slices.ContainsFunc(w.commits[x.began:], x.conflicts) {
		return api.ErrConflict
	}
	behind := w.now.with(x.saw, x.sees)
	c := commit{turnedRows(w.now, behind), turnedNames(w.now, behind)}
	w.now = behind
	if len(c.rows)+len(c.names) > 0 {
		w.commits = append(w.commits, c)
	}
	return api.OK
}

// byNumber: the table of this number.
func (m *model) byNumber(n int) (relation, bool) {
	for _, r := range m.list {
		if r.number == n {
			return r, true
		}
	}
	return relation{}, false
}

// lineOf this number.
func (r relation) lineOf(n int) []api.Value {
	for _, x := range r.rows {
		if x.number == n {
			return x.values
		}
	}
	return nil
}

// with all that is not the same in two others: tables, indexes, rows.
func (m *model) with(before, after *model) *model {
	out := &model{made: m.made}
	for _, r := range m.list {
		b, was := before.byNumber(r.number)
		a, is := after.byNumber(r.number)
		if was && !is {
			continue
		}
		if was {
			r = r.with(b, a)
		}
		out.list = append(out.list, r)
	}
	for _, a := range after.list {
		if _, was := before.byNumber(a.number); !was {
			out.list = append(out.list, a)
		}
	}
	return out
}

func (r relation) with(before, after relation) relation {
	if !slices.Equal(before.indexes, after.indexes) {
		// Whoever has turned the indexes has read all definitions.
		r.Indexes, r.indexes = after.Indexes, after.indexes
	}
	var rows []line
	for _, x := range r.rows {
		b, a := before.lineOf(x.number), after.lineOf(x.number)
		switch {
		case b != nil && a == nil:
		case b != nil && value.Rows(a, b) != 0:
			rows = append(rows, line{x.number, a})
		default:
			rows = append(rows, x)
		}
	}
	for _, x := range after.rows {
		if before.lineOf(x.number) == nil {
			rows = append(rows, x)
		}
	}
	r.rows = rows
	return r
}

// turnedRows: those that are not as they were.
func turnedRows(before, after *model) []lineTurn {
	var l []lineTurn
	for _, r := range before.list {
		a, _ := after.byNumber(r.number)
		for _, x := range r.rows {
			if now := a.lineOf(x.number); now == nil || value.Rows(now, x.values) != 0 {
				l = append(l, lineTurn{r.number, x.values, now})
			}
		}
	}
	for _, r := range after.list {
		b, _ := before.byNumber(r.number)
		for _, x := range r.rows {
			if b.lineOf(x.number) == nil {
				l = append(l, lineTurn{r.number, nil, x.values})
			}
		}
	}
	return l
}

// turnedNames: those whose tables are others, or have other indexes, than they had.
func turnedNames(before, after *model) []string {
	var l []string
	for _, pair := range [][2]*model{{before, after}, {after, before}} {
		for _, r := range pair[0].list {
			n := pair[1].table(r.Name)
			if n < 0 || pair[1].list[n].number != r.number || !slices.Equal(pair[1].list[n].indexes, r.indexes) {
				l = append(l, r.Name)
			}
		}
	}
	return l
}

// do a statement, and note what it reads.
func (x *trial) do(s api.Stmt) api.Result {
	x.all = x.all || s.Kind == api.CreateIndex || s.Kind == api.DropIndex
	cores := coresOf(s)
	x.names = append(x.names, s.Table)
	for _, c := range cores {
		for _, f := range c.From {
			x.names = append(x.names, f.Table)
		}
	}
	ahead := x.sees.copied()
	if bind.Check(ahead.tables(), s) == api.OK {
		x.note(ahead, s, cores)
	}
	r := x.sees.do(s)
	if r.Err == api.OK && (r.Count > 0 || s.Kind >= api.CreateTable) {
		x.did++
	}
	if s.Kind == api.Insert || s.Kind == api.Update {
		x.noteKeys(ahead, s.Table, x.sees.keys)
	}
	return r
}

// note which rows a statement reads that means something.
func (x *trial) note(m *model, s api.Stmt, cores []api.Core) {
	for _, c := range cores {
		for _, f := range c.From {
			if f.Table != "" {
				x.noteSource(m.list[m.table(f.Table)], c, f)
			}
		}
	}
	switch s.Kind {
	case api.Update, api.Delete:
		var parts []api.Expr
		for _, e := range conjuncts(s.Where) {
			if !hasQuery(e) {
				parts = append(parts, e)
			}
		}
		x.noteRows(m.list[m.table(s.Table)], s.Table, parts)
	case api.CreateIndex, api.DropTable:
		x.noteRows(m.list[m.table(s.Table)], s.Table, nil)
	}
}

// noteSource of a core.
func (x *trial) noteSource(r relation, c api.Core, f api.From) {
	name := f.As
	if name == "" {
		name = f.Table
	}
	var parts []api.Expr
	for _, e := range conjuncts(c.Where) {
		if f.Join != api.Left && !hasQuery(e) && speaksOf(e, name, r.Table) {
			parts = append(parts, e)
		}
	}
	x.noteRows(r, name, parts)
}

// speaksOf: are all columns of an expression those of a table, under this name? (No two sources have the same column where just its name is told.)
func speaksOf(e api.Expr, name string, t api.Table) bool {
	if e.Op == api.Col {
		return (e.Table == "" || e.Table == name) && columnOf(t, e.Name) >= 0
	}
	return !slices.ContainsFunc(e.Args, func(p api.Expr) bool { return !speaksOf(p, name, t) })
}

// noteRows of a table that meet all parts, which speak of it under this name.
func (x *trial) noteRows(r relation, name string, parts []api.Expr) {
	x.reads = append(x.reads, rowsRead{r.number, func(row []api.Value) bool {
		for _, e := range parts {
			core := api.Core{Items: []api.Item{{Expr: one()}}, From: []api.From{{Join: api.Cross, Table: name}}, Where: []api.Expr{e}}
			data := api.Data{Table: api.Table{Name: name, Columns: r.Columns}, Rows: [][]api.Value{row}}
			rows, _ := query.Answer([]api.Data{data}, api.Select{Cores: []api.Core{core}, Limit: -1})
			if len(rows.Rows) == 0 {
				return false
			}
		}
		return true
	}})
}

// noteKeys of rows that came or were turned.
func (x *trial) noteKeys(m *model, name string, rows [][]api.Value) {
	for _, row := range rows {
		r := m.list[m.table(name)]
		for _, o := range orders(r.Table, true) {
			values := some(row, o)
			if !slices.Contains(values, api.Value{}) {
				x.reads = append(x.reads, rowsRead{r.number, func(other []api.Value) bool { return value.Rows(some(other, o), values) == 0 }})
			}
		}
	}
}

// conjuncts: what must all be true.
func conjuncts(l []api.Expr) []api.Expr {
	var out []api.Expr
	for _, e := range l {
		if e.Op == api.And {
			out = append(out, conjuncts(e.Args)...)
		} else {
			out = append(out, e)
		}
	}
	return out
}

func hasQuery(e api.Expr) bool { return len(e.Sub) > 0 || slices.ContainsFunc(e.Args, hasQuery) }

// coresOf a statement: those of all its queries, but for the ones in a CHECK.
func coresOf(s api.Stmt) []api.Core {
	exprs := slices.Concat(slices.Concat(s.Rows...), s.Where)
	for _, x := range s.Sets {
		exprs = append(exprs, x.Expr)
	}
	var l []api.Core
	for _, q := range s.Query {
		l = append(l, coresIn(q)...)
	}
	return append(l, coresBelow(exprs)...)
}

func coresBelow(exprs []api.Expr) []api.Core {
	var l []api.Core
	for _, e := range exprs {
		l = append(l, coresBelow(e.Args)...)
		for _, q := range e.Sub {
			l = append(l, coresIn(q)...)
		}
	}
	return l
}

func coresIn(q api.Select) []api.Core {
	l := slices.Clone(q.Cores)
	for _, c := range q.Cores {
		exprs := slices.Concat(c.Where, c.Group, c.Having)
		for _, i := range c.Items {
			exprs = append(exprs, i.Expr)
		}
		for _, f := range c.From {
			exprs = append(exprs, f.On...)
			for _, sub := range f.Sub {
				l = append(l, coresIn(sub)...)
			}
		}
		l = append(l, coresBelow(exprs)...)
	}
	for _, o := range q.Order {
		l = append(l, coresBelow([]api.Expr{o.Expr})...)
	}
	return l
}
