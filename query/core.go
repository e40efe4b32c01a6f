package query

import (
	"slices"

	"relstore/api"
	"relstore/bind"
)

// core of a query: how its sources are joined.
type core struct {
	*run
	bind.Core
	width int // of its rows
	steps []step
	tests [][]bind.Term // what must be true of the rows of no source, of one source, and so on
}

// step: one more source comes to the rows so far.
type step struct {
	bind.Source
	ahead, on []bind.Term // of a left join: what must be true of a row so far, and of one with a partner
	by        lookup      // by which columns partners are looked up
	known     []bind.Term // what these must be equal to
	index     int         // by which key or index they are found; -1: by none
}

func (r *run) newCore(made bind.Core) *core {
	c := &core{run: r, Core: made, tests: make([][]bind.Term, len(made.Sources)+1)}
	var must []bind.Term
	for _, s := range made.Sources {
		c.width = s.To
		// The ON of any other join says no more than WHERE would.
		if s.Join != api.Left {
			must = split(must, s.On)
		}
	}
	must = split(must, made.Where)
	for _, t := range must {
		n := c.needs(t)
		c.tests[n] = append(c.tests[n], t)
	}
	for _, l := range c.tests {
		slices.SortStableFunc(l, cheaper)
	}
	for i := range made.Sources {
		c.steps = append(c.steps, c.newStep(i, must))
	}
	return c
}

// split terms at AND: what must all be true comes to a list.
func split(l, terms []bind.Term) []bind.Term {
	for _, t := range terms {
		if t.Op == api.And {
			l = split(l, t.Parts)
		} else {
			l = append(l, t)
		}
	}
	return l
}

// needs: how many of the core's sources must be joined for a term to be known.
func (c *core) needs(t bind.Term) int {
	n := 0
	if c.owns(t) {
		n = t.Place.Source + 1
	}
	for _, p := range t.Parts {
		n = max(n, c.needs(p))
	}
	if t.Query != nil {
		for _, p := range t.Query.Far {
			n = max(n, c.needs(p))
		}
	}
	return n
}

// owns: is a term a column of this core?
func (c *core) owns(t bind.Term) bool { return t.Op == api.Col && t.Place.Depth == c.Depth }

// asks: has a term a query in it?
func asks(t bind.Term) bool { return t.Query != nil || slices.ContainsFunc(t.Parts, asks) }

// cheaper: terms without queries stand ahead of those with some.
func cheaper(t, u bind.Term) int {
	switch {
	case asks(t) == asks(u):
		return 0
	case asks(u):
		return -1
	}
	return 1
}

// newStep of a source. must: what must be true of all rows; in a left join it says of a partner, too, by which values it is looked up: a row that seems to have none then is left out in the end.
func (c *core) newStep(number int, must []bind.Term) step {
	s := step{Source: c.Sources[number], index: -1}
	if s.Join == api.Left {
		for _, t := range split(nil, s.On) {
			if c.needs(t) <= number {
				s.ahead = append(s.ahead, t)
			} else {
				s.on = append(s.on, t)
			}
		}
		slices.SortStableFunc(s.on, cheaper)
		must = slices.Concat(s.on, must)
	}
	numbers, known := c.known(number, c.equations(must))
	if s.Query == nil {
		s.index = c.bestIndex(s.Table, numbers)
	}
	if s.index >= 0 {
		chosen := c.indexColumns(s.Table, s.index)
		known = picked(known, numbers, chosen)
		numbers = chosen
	}
	s.by, s.known = lookupBy(numbers), known
	return s
}

// picked: the terms of these columns, in their order.
func picked(terms []bind.Term, numbers, chosen []int) []bind.Term {
	var l []bind.Term
	for _, n := range chosen {
		l = append(l, terms[slices.Index(numbers, n)])
	}
	return l
}
