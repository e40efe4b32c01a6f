package query

import (
	"iter"
	"math/bits"
	"slices"

	"relstore/api"
	"relstore/bind"
	"relstore/value"
)

// The forms of an Agg.
const (
	aggDistinct = 1
	aggAll      = 2
)

// group of rows of a core: the first one, and what is known of the aggregates. What stands behind the groups has no column but those that are the same in all rows.
type group struct {
	row     []api.Value
	tallies []tally
}

// tally of an aggregate: over the rows so far.
type tally struct {
	count int64
	sum   total
	best  api.Value // the least one, or the greatest one
	seen  set
}

// groups of a core for which HAVING is true.
func (c *core) groups(f *frame) iter.Seq[*frame] {
	return func(yield func(*frame) bool) {
		for _, g := range c.gathered(f) {
			here := &frame{outer: f, depth: c.Depth, row: g.row, gathered: c.results(g)}
			if c.meets(c.Having, here) && !yield(here) {
				return
			}
		}
	}
}

// gathered: all groups.
func (c *core) gathered(f *frame) []group {
	var groups []group
	numbers := map[string]int{}
	if len(c.Group) == 0 {
		// All rows are one group, even if there are none.
		numbers[value.Key(nil)] = 0
		groups = append(groups, c.newGroup(make([]api.Value, c.width)))
	}
	for here := range c.rows(f) {
		key := value.Key(c.values(c.Group, here))
		n, ok := numbers[key]
		if !ok {
			n = len(groups)
			numbers[key] = n
			groups = append(groups, c.newGroup(slices.Clone(here.row)))
		}
		for i := range c.Aggregates {
			c.count(&groups[n].tallies[i], &c.Aggregates[i], here)
		}
	}
	return groups
}

func (c *core) newGroup(row []api.Value) group {
	g := group{row, make([]tally, len(c.Aggregates))}
	for i := range g.tallies {
		g.tallies[i].seen = set{}
	}
	return g
}

// count one more row to an aggregate.
func (c *core) count(y *tally, t *bind.Term, here *frame) {
	if t.Form == aggAll {
		y.count++
		return
	}
	v := c.value(&t.Parts[0], here)
	if isNull(v) || t.Form == aggDistinct && !y.seen.add([]api.Value{v}) {
		return
	}
	y.count++
	switch t.Name {
	case "sum", "avg":
		y.sum.add(v.N)
	case "min":
		if isNull(y.best) || value.Order(v, y.best) < 0 {
			y.best = v
		}
	case "max":
		if isNull(y.best) || value.Order(v, y.best) > 0 {
			y.best = v
		}
	}
}

// results of the aggregates of a group.
func (c *core) results(g group) []api.Value {
	l := make([]api.Value, len(g.tallies))
	for i, y := range g.tallies {
		l[i] = y.result(c.Aggregates[i].Name)
	}
	return l
}

func (y tally) result(name string) api.Value {
	switch {
	case name == "count":
		return number(y.count)
	case y.count == 0:
		return api.Value{}
	case name == "sum":
		return y.sum.whole()
	case name == "avg":
		return y.sum.by(y.count)
	}
	return y.best
}

// total of numbers: 128 bits, so that it does not matter what comes on the way.
type total struct {
	high int64
	low  uint64
}

func (s *total) add(n int64) {
	low, carry := bits.Add64(s.low, uint64(n), 0)
	s.low = low
	// The high half of a number below 0 is all ones: -1.
	s.high += n>>63 + int64(carry)
}

// whole: the number that it is; null, if that is beyond 64 bits.
func (s total) whole() api.Value {
	n := int64(s.low)
	if s.high != n>>63 {
		return api.Value{}
	}
	return number(n)
}

// by how many, without its fraction.
func (s total) by(count int64) api.Value {
	if s.high >= 0 {
		n, _ := bits.Div64(uint64(s.high), s.low, uint64(count))
		return number(int64(n))
	}
	low, borrow := bits.Sub64(0, s.low, 0)
	high, _ := bits.Sub64(0, uint64(s.high), borrow)
	n, _ := bits.Div64(high, low, uint64(count))
	return number(-int64(n))
}
