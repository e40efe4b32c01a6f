package query

import (
	"iter"
	"math"
	"slices"

	"relstore/api"
	"relstore/bind"
	"relstore/value"
)

// What the rows of a query are needed for.
const (
	forOrder = iota // all of them, in order
	forAll          // all of them, in no order
	forFirst        // the first one
	forAny          // whether there is one
)

// maxHeld: how many rows the answers of a query that are held have, more or less.
const maxHeld = 1 << 16

// plan: how a query is answered, and its answers so far.
type plan struct {
	*run
	made    *bind.Query
	cores   []*core
	ordered bool // the order of its rows matters
	order   []bind.Order
	skip    int64
	take    int64                // below 0: all
	answers map[string]*relation // by the values of the columns further out that it speaks of
	held    int                  // how many rows these have
}

// plan of a query.
func (r *run) plan(q *bind.Query, use int) *plan {
	if p := r.plans[q.Number]; p != nil {
		return p
	}
	p := &plan{run: r, made: q, skip: max(q.Offset, 0), take: q.Limit, answers: map[string]*relation{}}
	for _, c := range q.Cores {
		p.cores = append(p.cores, r.newCore(c))
	}
	cut := p.take >= 0 || p.skip > 0
	p.ordered = use == forOrder || use == forFirst || use == forAll && cut
	if p.ordered {
		p.order = q.Order
	}
	if (use == forFirst || use == forAny) && p.take != 0 {
		p.take = 1
	}
	r.plans[q.Number] = p
	return p
}

// inner query, in a frame: its answer. One that speaks of nothing further out is answered once, all others again for other values; many answers are not held.
func (r *run) inner(q *bind.Query, use int, f *frame) *relation {
	p := r.plan(q, use)
	key := value.Key(r.values(q.Far, f))
	if l := p.answers[key]; l != nil {
		return l
	}
	l := newRelation(p.answer(f))
	if p.held > maxHeld {
		clear(p.answers)
		p.held = 0
	}
	p.answers[key] = l
	p.held += 1 + len(l.rows)
	return l
}

// answer: the rows of a query.
func (p *plan) answer(f *frame) [][]api.Value {
	c := &collection{plan: p, most: -1}
	if p.take >= 0 && p.skip <= math.MaxInt64-p.take {
		c.most = p.skip + p.take
	}
	for r := range p.records(f) {
		if !c.add(r) {
			break
		}
	}
	return c.rows()
}

// record: a row of a query, and what it is ordered by.
type record struct{ row, keys []api.Value }

// records of a query.
func (p *plan) records(f *frame) iter.Seq[record] {
	if len(p.cores) == 1 {
		return p.cores[0].records(p.order, f)
	}
	return func(yield func(record) bool) {
		for _, row := range p.combined(f) {
			if !yield(record{row, p.keys(p.order, row, f)}) {
				return
			}
		}
	}
}

// keys: what a row is ordered by.
func (r *run) keys(order []bind.Order, row []api.Value, f *frame) []api.Value {
	l := make([]api.Value, len(order))
	for i := range order {
		if n := order[i].Column; n >= 0 {
			l[i] = row[n]
		} else {
			l[i] = r.value(&order[i].Term, f)
		}
	}
	return l
}

// frames of a core: of its rows or, if it is grouped, of its groups.
func (c *core) frames(f *frame) iter.Seq[*frame] {
	if c.Grouped {
		return c.groups(f)
	}
	return c.rows(f)
}

// records of a core.
func (c *core) records(order []bind.Order, f *frame) iter.Seq[record] {
	return func(yield func(record) bool) {
		seen := set{}
		for here := range c.frames(f) {
			row := c.values(c.Items, here)
			if c.Distinct && !seen.add(row) {
				continue
			}
			if !yield(record{row, c.keys(order, row, here)}) {
				return
			}
		}
	}
}

// combined: the rows of several cores.
func (p *plan) combined(f *frame) [][]api.Value {
	rows := p.cores[0].laid(f)
	for i, op := range p.made.Ops {
		rows = combine(op, rows, p.cores[i+1].laid(f))
	}
	return rows
}

// laid: the rows of one of several cores, with the query's columns.
func (c *core) laid(f *frame) [][]api.Value {
	var rows [][]api.Value
	for r := range c.records(nil, f) {
		row := make([]api.Value, len(c.At))
		for i, n := range c.At {
			row[i] = r.row[n]
		}
		rows = append(rows, row)
	}
	return rows
}

// combine the rows of two.
func combine(op int, l, m [][]api.Value) [][]api.Value {
	switch op {
	case api.Union:
		return once(append(l, m...))
	case api.Intersect:
		others := setOf(m)
		return once(slices.DeleteFunc(l, func(row []api.Value) bool { return !others.has(row) }))
	case api.Except:
		return once(slices.DeleteFunc(l, setOf(m).has))
	}
	return append(l, m...)
}

// once: each row once.
func once(rows [][]api.Value) [][]api.Value {
	seen := set{}
	return slices.DeleteFunc(rows, func(row []api.Value) bool { return !seen.add(row) })
}
