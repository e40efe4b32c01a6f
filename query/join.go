package query

import (
	"iter"
	"slices"

	"relstore/api"
)

// rows of a core: its sources, joined, as far as WHERE is true. All of them are one frame, whose row is written over.
func (c *core) rows(f *frame) iter.Seq[*frame] {
	here := &frame{outer: f, depth: c.Depth, row: make([]api.Value, c.width)}
	return c.joined(here, len(c.steps))
}

// joined: the rows of so many sources.
func (c *core) joined(here *frame, count int) iter.Seq[*frame] {
	return func(yield func(*frame) bool) {
		if count == 0 {
			if c.meets(c.tests[0], here) {
				yield(here)
			}
			return
		}
		for range c.joined(here, count-1) {
			for range c.partners(&c.steps[count-1], here) {
				if c.meets(c.tests[count], here) && !yield(here) {
					return
				}
			}
		}
	}
}

// partners of a row in one more source.
func (c *core) partners(s *step, here *frame) iter.Seq[*frame] {
	return func(yield func(*frame) bool) {
		own, alone := here.row[s.From:s.To], true
		for _, row := range c.candidates(s, here) {
			copy(own, row)
			if !c.meets(s.on, here) {
				continue
			}
			alone = false
			if !yield(here) {
				return
			}
		}
		if alone && s.Join == api.Left {
			clear(own)
			yield(here)
		}
	}
}

// candidates: the rows of a source that may be partners of a row.
func (c *core) candidates(s *step, here *frame) [][]api.Value {
	if !c.meets(s.ahead, here) {
		return nil
	}
	values := c.values(s.known, here)
	if slices.ContainsFunc(values, isNull) {
		return nil
	}
	switch {
	case s.Query != nil:
		return c.inner(s.Query, forAll, here.outer).with(s.by, values)
	case s.index >= 0:
		return c.find(s.Table, s.index, s.by, values)
	}
	return c.all(s.Table).with(s.by, values)
}
