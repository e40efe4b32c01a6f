package bind_test

import (
	"strconv"

	"relstore/api"
)

// model: the document's words once more, in another way: names are looked up again and again, errors are answers, and columns that may not stand behind groups are noted where they are met.
type model struct{ tables []api.Table }

// owned: a column of a source.
type owned struct {
	source, name string
	kind         int
}

// level: a core, or the table of a statement.
type level struct {
	outer     *level
	names     []string // of the sources
	columns   []owned
	group     []api.Expr
	behind    bool // one is behind its groups
	sheltered int  // in how many aggregates, or parts that are grouped by, one is
	bare      bool // a column was met that may not stand where it does
	gather    bool // aggregates may stand
	asking    bool // queries may stand
}

// found: which column of which level.
type found struct {
	at     *level
	number int
}

func (l *level) look(e api.Expr) (found, api.Errno) {
	for at := l; at != nil; at = at.outer {
		hits, last := 0, 0
		for i, c := range at.columns {
			if c.name == e.Name && (e.Table == "" || e.Table == c.source) {
				hits++
				last = i
			}
		}
		if hits > 1 {
			return found{}, api.ErrName
		}
		if hits == 1 {
			return found{at, last}, api.OK
		}
	}
	return found{}, api.ErrName
}

// alone: is a column of this level grouped by by itself?
func (l *level) alone(number int) bool {
	for _, g := range l.group {
		if f, e := l.look(g); g.Op == api.Col && e == api.OK && f == (found{l, number}) {
			return true
		}
	}
	return false
}

// sameWay: are two expressions of this level made the same way?
func (l *level) sameWay(a, b api.Expr) bool {
	if a.Op != b.Op || len(a.Sub)+len(b.Sub) > 0 || len(a.Args) != len(b.Args) {
		return false
	}
	switch a.Op {
	case api.Col:
		x, e := l.look(a)
		y, f := l.look(b)
		return e == api.OK && f == api.OK && x == y
	case api.Lit:
		return a.Value == b.Value
	case api.Func:
		if a.Name != b.Name {
			return false
		}
	case api.Agg:
		return false
	case api.Cast, api.Case:
		if a.Form != b.Form {
			return false
		}
	}
	for i := range a.Args {
		if !l.sameWay(a.Args[i], b.Args[i]) {
			return false
		}
	}
	return true
}

func (l *level) groupedBy(e api.Expr) bool {
	for _, g := range l.group {
		if l.sameWay(e, g) {
			return true
		}
	}
	return false
}

// agree: the kind of several that are alike.
func agree(kinds ...int) (int, api.Errno) {
	kind := api.Null
	for _, k := range kinds {
		if k == api.Null {
			continue
		}
		if kind != api.Null && kind != k {
			return 0, api.ErrType
		}
		kind = k
	}
	return kind, api.OK
}

// kind of an expression.
func (m model) kind(l *level, e api.Expr) (int, api.Errno) {
	if l.groupedBy(e) {
		l.sheltered++
		defer func() { l.sheltered-- }()
	}
	switch e.Op {
	case api.Col:
		f, err := l.look(e)
		if err != api.OK {
			return 0, err
		}
		if f.at.behind && f.at.sheltered == 0 && !f.at.alone(f.number) {
			f.at.bare = true
		}
		return f.at.columns[f.number].kind, api.OK
	case api.Agg:
		return m.aggregate(l, e)
	}
	var kinds []int
	for _, x := range e.Args {
		k, err := m.kind(l, x)
		if err != api.OK {
			return 0, err
		}
		kinds = append(kinds, k)
	}
	if len(e.Sub) == 0 {
		return m.own(e, kinds)
	}
	if !l.asking {
		return 0, api.ErrForm
	}
	columns, err := m.query(l, e.Sub[0])
	if err != api.OK {
		return 0, err
	}
	if e.Op == api.Exists {
		return api.Bool, api.OK
	}
	if len(columns) != 1 {
		return 0, api.ErrForm
	}
	return m.own(e, append(kinds, columns[0].Kind))
}

func (m model) aggregate(l *level, e api.Expr) (int, api.Errno) {
	if !l.gather {
		return 0, api.ErrForm
	}
	if e.Form == 2 {
		if e.Name != "count" {
			return 0, api.ErrForm
		}
		return api.Int, api.OK
	}
	l.gather = false
	l.sheltered++
	k, err := m.kind(l, e.Args[0])
	l.gather = true
	l.sheltered--
	switch {
	case err != api.OK:
		return 0, err
	case e.Name == "count":
		return api.Int, api.OK
	case e.Name == "min" || e.Name == "max":
		return k, api.OK
	}
	return agree(api.Int, k)
}

// own: the kind of an expression by those of its parts, its query's column among them.
func (m model) own(e api.Expr, kinds []int) (int, api.Errno) {
	of := func(part, gives int) (int, api.Errno) {
		if _, err := agree(append([]int{part}, kinds...)...); err != api.OK {
			return 0, err
		}
		return gives, api.OK
	}
	switch e.Op {
	case api.Lit:
		return e.Value.Kind, api.OK
	case api.Neg, api.Add, api.Sub, api.Mul, api.Div, api.Mod:
		return of(api.Int, api.Int)
	case api.Not, api.And, api.Or:
		return of(api.Bool, api.Bool)
	case api.Concat:
		return of(api.Text, api.Text)
	case api.Like:
		return of(api.Text, api.Bool)
	case api.IsNull:
		return api.Bool, api.OK
	case api.Cast:
		return e.Form, api.OK
	case api.Scalar:
		return kinds[0], api.OK
	case api.Case:
		return m.choice(e, kinds)
	case api.Func:
		return m.function(e.Name, kinds)
	}
	return of(api.Null, api.Bool) // tests of what must be alike
}

func (m model) choice(e api.Expr, kinds []int) (int, api.Errno) {
	held, out, pairs := api.Bool, api.Null, len(kinds)/2*2
	first := 0
	if e.Form == 1 || e.Form == 3 {
		held, first = kinds[0], 1
		pairs = (len(kinds) - 1) / 2 * 2
	}
	if e.Form >= 2 {
		out = kinds[len(kinds)-1]
	}
	whens, thens := []int{held}, []int{out}
	for i := range pairs {
		if i%2 == 0 {
			whens = append(whens, kinds[first+i])
		} else {
			thens = append(thens, kinds[first+i])
		}
	}
	if _, err := agree(whens...); err != api.OK {
		return 0, err
	}
	return agree(thens...)
}

func (m model) function(name string, kinds []int) (int, api.Errno) {
	type signature struct {
		least, most int
		parts       []int
		gives       int
	}
	s, ok := map[string]signature{
		"length": {1, 1, []int{api.Text}, api.Int}, "upper": {1, 1, []int{api.Text}, api.Text}, "lower": {1, 1, []int{api.Text}, api.Text}, "abs": {1, 1, []int{api.Int}, api.Int},
		"substr": {2, 3, []int{api.Text, api.Int, api.Int}, api.Text}, "coalesce": {1, 1 << 30, nil, 0}, "nullif": {2, 2, nil, 0},
	}[name]
	if !ok {
		return 0, api.ErrName
	}
	if len(kinds) < s.least || len(kinds) > s.most {
		return 0, api.ErrForm
	}
	if s.parts == nil {
		return agree(kinds...)
	}
	for i, k := range kinds {
		if k != api.Null && k != s.parts[i] {
			return 0, api.ErrType
		}
	}
	return s.gives, api.OK
}

// truth: an expression that must be one.
func (m model) truth(l *level, e api.Expr) api.Errno {
	k, err := m.kind(l, e)
	if err == api.OK && k != api.Null && k != api.Bool {
		return api.ErrType
	}
	return err
}

func (m model) truths(l *level, list []api.Expr) api.Errno {
	for _, e := range list {
		if err := m.truth(l, e); err != api.OK {
			return err
		}
	}
	return api.OK
}

func (m model) table(name string) (api.Table, bool) {
	for _, t := range m.tables {
		if t.Name == name {
			return t, true
		}
	}
	return api.Table{}, false
}

// source of a core comes to its level.
func (m model) source(l *level, f api.From) api.Errno {
	name, columns := f.As, []owned(nil)
	if len(f.Sub) > 0 {
		list, err := m.query(l.outer, f.Sub[0])
		if err != api.OK {
			return err
		}
		for _, c := range list {
			columns = append(columns, owned{name, c.Name, c.Kind})
		}
	} else {
		t, ok := m.table(f.Table)
		if !ok {
			return api.ErrMissing
		}
		if name == "" {
			name = f.Table
		}
		for _, c := range t.Columns {
			columns = append(columns, owned{name, c.Name, c.Kind})
		}
	}
	for _, n := range l.names {
		if n == name {
			return api.ErrExists
		}
	}
	l.names = append(l.names, name)
	l.columns = append(l.columns, columns...)
	return m.truths(l, f.On)
}

// counted: has an expression an aggregate that is not in a query within?
func counted(e api.Expr) bool {
	is := e.Op == api.Agg
	for _, x := range e.Args {
		is = is || counted(x)
	}
	return is
}

func (m model) core(outer *level, c api.Core, order []api.Order) (*level, []api.Column, api.Errno) {
	l := &level{outer: outer, asking: true}
	if len(c.From) > 8 {
		return l, nil, api.ErrLarge
	}
	for _, f := range c.From {
		if err := m.source(l, f); err != api.OK {
			return l, nil, err
		}
	}
	if err := m.truths(l, c.Where); err != api.OK {
		return l, nil, err
	}
	for _, e := range c.Group {
		if _, err := m.kind(l, e); err != api.OK {
			return l, nil, err
		}
	}
	l.group, l.gather = c.Group, true
	l.behind = len(c.Group)+len(c.Having) > 0
	for _, i := range c.Items {
		l.behind = l.behind || counted(i.Expr)
	}
	for _, o := range order {
		l.behind = l.behind || counted(o.Expr)
	}
	var columns []api.Column
	for _, i := range c.Items {
		more, err := m.item(l, i, len(columns)+1)
		if err != api.OK {
			return l, nil, err
		}
		columns = append(columns, more...)
	}
	err := m.truths(l, c.Having)
	if err == api.OK && l.bare {
		err = api.ErrForm
	}
	return l, columns, err
}

func (m model) item(l *level, i api.Item, number int) ([]api.Column, api.Errno) {
	if !i.Star {
		k, err := m.kind(l, i.Expr)
		if err == api.OK && l.bare {
			err = api.ErrForm
		}
		name := "column" + strconv.Itoa(number)
		if i.Expr.Op == api.Col {
			name = i.Expr.Name
		}
		if i.As != "" {
			name = i.As
		}
		return []api.Column{{Name: name, Kind: k}}, err
	}
	if i.Table == "" && len(l.names) == 0 {
		return nil, api.ErrForm
	}
	known := i.Table == ""
	for _, n := range l.names {
		known = known || n == i.Table
	}
	if !known {
		return nil, api.ErrName
	}
	var columns []api.Column
	for n, c := range l.columns {
		if i.Table == "" || i.Table == c.source {
			if l.behind && !l.alone(n) {
				return nil, api.ErrForm
			}
			columns = append(columns, api.Column{Name: c.name, Kind: c.kind})
		}
	}
	return columns, api.OK
}

func (m model) query(outer *level, q api.Select) ([]api.Column, api.Errno) {
	var columns []api.Column
	var only *level
	for i, c := range q.Cores {
		var order []api.Order
		if len(q.Cores) == 1 {
			order = q.Order
		}
		l, more, err := m.core(outer, c, order)
		if err != api.OK {
			return nil, err
		}
		if i == 0 {
			only, columns = l, more
			continue
		}
		if len(more) != len(columns) {
			return nil, api.ErrForm
		}
		for j := range more {
			k, err := agree(columns[j].Kind, more[j].Kind)
			if err != api.OK {
				return nil, err
			}
			columns[j].Kind = k
		}
	}
	for _, o := range q.Order {
		if err := m.order(q, only, columns, o.Expr); err != api.OK {
			return nil, err
		}
	}
	return columns, api.OK
}

func (m model) order(q api.Select, only *level, columns []api.Column, e api.Expr) api.Errno {
	if e.Op == api.Lit && e.Value.Kind == api.Int {
		if e.Value.N < 1 || e.Value.N > int64(len(columns)) {
			return api.ErrForm
		}
		return api.OK
	}
	for _, c := range columns {
		if e.Op == api.Col && e.Table == "" && e.Name == c.Name {
			return api.OK
		}
	}
	if len(q.Cores) > 1 || q.Cores[0].Distinct {
		return api.ErrForm
	}
	_, err := m.kind(only, e)
	if err == api.OK && only.bare {
		return api.ErrForm
	}
	return err
}

// picked: columns by their names, one by one.
func picked(columns []api.ColumnDef, names []string) ([]int, api.Errno) {
	var l []int
	for _, name := range names {
		at := -1
		for i, c := range columns {
			if c.Name == name {
				at = i
			}
		}
		if at < 0 {
			return nil, api.ErrName
		}
		for _, n := range l {
			if n == at {
				return nil, api.ErrExists
			}
		}
		l = append(l, at)
	}
	return l, api.OK
}

// over the columns of a table.
func over(t api.Table) *level {
	l := &level{names: []string{t.Name}, asking: true}
	for _, c := range t.Columns {
		l.columns = append(l.columns, owned{t.Name, c.Name, c.Kind})
	}
	return l
}

// becomes: a value that a column gets.
func (m model) becomes(l *level, e api.Expr, kind int) api.Errno {
	k, err := m.kind(l, e)
	if err == api.OK && k != api.Null && k != kind {
		return api.ErrType
	}
	return err
}

func (m model) insert(t api.Table, s api.Stmt) api.Errno {
	names := s.Names
	if len(names) == 0 {
		for _, c := range t.Columns {
			names = append(names, c.Name)
		}
	}
	numbers, err := picked(t.Columns, names)
	if err != api.OK {
		return err
	}
	if len(s.Query) > 0 {
		columns, err := m.query(nil, s.Query[0])
		if err != api.OK {
			return err
		}
		if len(columns) != len(numbers) {
			return api.ErrForm
		}
		for i, c := range columns {
			if _, err := agree(c.Kind, t.Columns[numbers[i]].Kind); err != api.OK {
				return err
			}
		}
	}
	for _, row := range s.Rows {
		if len(row) != len(numbers) {
			return api.ErrForm
		}
		for i, e := range row {
			if err := m.becomes(&level{asking: true}, e, t.Columns[numbers[i]].Kind); err != api.OK {
				return err
			}
		}
	}
	return api.OK
}

func (m model) update(t api.Table, s api.Stmt) api.Errno {
	var names []string
	for _, x := range s.Sets {
		names = append(names, x.Column)
	}
	numbers, err := picked(t.Columns, names)
	if err != api.OK {
		return err
	}
	for i, x := range s.Sets {
		if err := m.becomes(over(t), x.Expr, t.Columns[numbers[i]].Kind); err != api.OK {
			return err
		}
	}
	return m.truths(over(t), s.Where)
}

func (m model) createTable(s api.Stmt) api.Errno {
	if len(s.Table) > 60 {
		return api.ErrLarge
	}
	if _, ok := m.table(s.Table); ok {
		return api.ErrExists
	}
	if len(s.Columns) == 0 {
		return api.ErrForm
	}
	if len(s.Columns) > 32 {
		return api.ErrLarge
	}
	for i, c := range s.Columns {
		if len(c.Name) > 60 {
			return api.ErrLarge
		}
		if _, err := picked(s.Columns[:i], []string{c.Name}); err == api.OK {
			return api.ErrExists
		}
		if len(c.Default) > 0 && c.Default[0].Kind != api.Null && c.Default[0].Kind != c.Kind {
			return api.ErrType
		}
	}
	primaries := 0
	for _, k := range s.Keys {
		if _, err := picked(s.Columns, k.Columns); err != api.OK {
			return err
		}
		if k.Primary {
			primaries++
		}
		if k.Primary && primaries == 2 {
			return api.ErrForm
		}
	}
	l := over(api.Table{Name: s.Table, Columns: s.Columns})
	l.asking = false
	return m.truths(l, s.Checks)
}

func (m model) index(name string) bool {
	for _, t := range m.tables {
		for _, i := range t.Indexes {
			if i.Name == name {
				return true
			}
		}
	}
	return false
}

// check a statement.
func (m model) check(s api.Stmt) api.Errno {
	t, ok := m.table(s.Table)
	switch s.Kind {
	case api.Query:
		_, err := m.query(nil, s.Query[0])
		return err
	case api.CreateTable:
		return m.createTable(s)
	case api.CreateIndex:
		if len(s.Name) > 60 {
			return api.ErrLarge
		}
		if m.index(s.Name) {
			return api.ErrExists
		}
	case api.DropIndex:
		if !m.index(s.Name) {
			return api.ErrMissing
		}
		return api.OK
	case api.Insert, api.Update, api.Delete, api.DropTable:
	default:
		return api.OK
	}
	if !ok {
		return api.ErrMissing
	}
	switch s.Kind {
	case api.Insert:
		return m.insert(t, s)
	case api.Update:
		return m.update(t, s)
	case api.Delete:
		return m.truths(over(t), s.Where)
	case api.CreateIndex:
		_, err := picked(t.Columns, s.Names)
		return err
	}
	return api.OK
}
