package sql_test

import (
	"math/rand"
	"testing"

	"relstore/api"
	"relstore/sql"
)

// around an expression: one that is higher.
func (m maker) around(e api.Expr) api.Expr {
	x := m.leaf()
	one := api.Select{Cores: []api.Core{{Items: []api.Item{{Expr: e}}}}, Limit: -1}
	all := []api.Item{{Star: true}}
	switch m.r.Intn(16) {
	case 0, 1:
		return api.Expr{Op: api.Neg, Args: []api.Expr{e}}
	case 2, 3:
		return api.Expr{Op: api.Not, Args: []api.Expr{e}}
	case 4:
		return api.Expr{Op: api.IsNull, Args: []api.Expr{e}}
	case 5, 6:
		return api.Expr{Op: api.Add + m.r.Intn(api.Like-api.Add+1), Args: pick(m, []api.Expr{e, x}, []api.Expr{x, e})}
	case 7:
		return api.Expr{Op: api.Between, Args: pick(m, []api.Expr{e, x, x}, []api.Expr{x, e, x}, []api.Expr{x, x, e})}
	case 8:
		return api.Expr{Op: api.In, Args: pick(m, []api.Expr{e, x}, []api.Expr{x, e}, []api.Expr{x, x, e, x})}
	case 9:
		return api.Expr{Op: api.Func, Name: "f", Args: pick(m, []api.Expr{e}, []api.Expr{x, e}, []api.Expr{e, x})}
	case 10:
		return api.Expr{Op: api.Case, Form: 3, Args: pick(m, []api.Expr{e, x, x, x}, []api.Expr{x, e, x, x}, []api.Expr{x, x, e, x}, []api.Expr{x, x, x, e})}
	case 11:
		return api.Expr{Op: api.Cast, Form: api.Text, Args: []api.Expr{e}}
	case 12:
		return api.Expr{Op: api.Agg, Name: "max", Form: m.r.Intn(2), Args: []api.Expr{e}}
	case 13:
		return api.Expr{Op: api.In, Args: []api.Expr{x}, Sub: []api.Select{one}}
	case 14:
		core := api.Core{Items: all, From: []api.From{{Join: api.Cross, Sub: []api.Select{one}, As: "x"}}}
		return api.Expr{Op: pick(m, api.Exists, api.Scalar), Sub: []api.Select{{Cores: []api.Core{core}, Limit: -1}}}
	}
	core := api.Core{Items: all}
	switch m.r.Intn(5) {
	case 0:
		core.Where = []api.Expr{e}
	case 1:
		core.Group = []api.Expr{x, e}
	case 2:
		core.Having = []api.Expr{e}
	case 3:
		core.From = []api.From{{Join: api.Cross, Table: "t"}, {Join: api.Left, Table: "u", On: []api.Expr{e}}}
	case 4:
		return api.Expr{Op: api.Scalar, Sub: []api.Select{{Cores: []api.Core{core}, Order: []api.Order{{Expr: e}}, Limit: -1}}}
	}
	return api.Expr{Op: pick(m, api.Exists, api.Scalar), Sub: []api.Select{{Cores: []api.Core{core}, Limit: -1}}}
}

// holding an expression: a statement that has it in it.
func (m maker) holding(e api.Expr) api.Stmt {
	query := []api.Select{{Cores: []api.Core{{Items: []api.Item{{Expr: e, As: m.alias()}}}}, Limit: -1}}
	switch m.r.Intn(6) {
	case 0:
		return api.Stmt{Kind: api.Insert, Table: "t", Rows: [][]api.Expr{{e}}}
	case 1:
		return api.Stmt{Kind: api.Update, Table: "t", Sets: []api.Set{{Column: "a", Expr: e}}}
	case 2:
		return api.Stmt{Kind: api.Delete, Table: "t", Where: []api.Expr{e}}
	case 3:
		return api.Stmt{Kind: api.CreateTable, Table: "t", Checks: []api.Expr{e}, Columns: []api.ColumnDef{{Name: "a", Kind: api.Int}}}
	case 4:
		core := api.Core{Items: []api.Item{{Star: true}}, From: []api.From{{Join: api.Cross, Sub: query, As: "x"}}}
		return api.Stmt{Kind: api.Query, Query: []api.Select{{Cores: []api.Core{core}, Limit: -1}}}
	}
	return api.Stmt{Kind: api.Query, Query: query}
}

// P15: what stands too deep, or is too high, and tokens that are none: by which error is found first.
func TestAnyDepths(t *testing.T) {
	m := maker{rand.New(rand.NewSource(60))}
	count := map[event]int{}
	for i := range 5000 {
		e := m.leaf()
		for range 45 + m.r.Intn(20) {
			e = m.around(e)
		}
		s := m.holding(e)
		w := &scribe{r: m.r, parens: []int{0, 30, 50, 65}[i%4]}
		w.statement(s)
		w.spoil(m)
		source, places := w.text()
		want, at := w.first(places)
		l, reason, place := sql.Parse(source)
		if reason != want || place != at || reason != api.OK && len(l) > 0 {
			t.Fatalf("%s\n%v at %d, not %v at %d", source, reason, place, want, at)
		}
		if reason != api.OK {
			count[event{reason: want, phase: w.events[0].phase}]++
			continue
		}
		count[event{}]++
		if !same(l, []api.Stmt{s}) {
			t.Fatalf("%s\nis read as\n%+v", source, l)
		}
		again(t, source, s)
	}
	for _, kind := range []event{{}, {reason: api.ErrSyntax}, {reason: api.ErrLarge}, {reason: api.ErrLarge, phase: 1}, {reason: api.ErrLarge, phase: 2}, {reason: api.ErrSyntax, phase: 2}} {
		if count[kind] < 100 {
			t.Errorf("%v came %d times", kind, count[kind])
		}
	}
}

// spoil what was written, or not: a token that is none anywhere, or one at the end that may not stand there.
func (w *scribe) spoil(m maker) {
	at := m.r.Intn(len(w.tokens))
	switch m.r.Intn(4) {
	case 0:
		w.tokens[at] = pick(m, "#", "12a", "?", "9223372036854775808")
		w.events = append(w.events, event{api.ErrSyntax, at, at, 0})
	case 1:
		w.tokens[at] = pick(m, `"`+run("x", 1001)+`"`, "'"+run("x", 1001)+"'", run("x", 1001))
		w.events = append(w.events, event{api.ErrLarge, at, at, 0})
	case 2:
		at = w.word("key")
		w.events = append(w.events, event{api.ErrSyntax, at, at, 2})
	}
}
