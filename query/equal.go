package query

import (
	"slices"

	"relstore/api"
	"relstore/bind"
)

// equation: the two terms that must be equal, if that is what a term says.
func equation(t bind.Term) ([]bind.Term, bool) {
	is := t.Op == api.Eq || t.Op == api.In && t.Query == nil && len(t.Parts) == 2
	return t.Parts, is
}

// equations: lists of terms that must all be equal to one another, if these terms are true.
func (c *core) equations(must []bind.Term) [][]bind.Term {
	var lists [][]bind.Term
	for _, t := range must {
		terms, ok := equation(t)
		if !ok {
			continue
		}
		joined := slices.Clone(terms)
		var others [][]bind.Term
		for _, l := range lists {
			if c.meet(l, terms) {
				joined = append(l, joined...)
			} else {
				others = append(others, l)
			}
		}
		lists = append(others, joined)
	}
	return lists
}

// meet: have two lists a column of the core in common?
func (c *core) meet(l, m []bind.Term) bool {
	return slices.ContainsFunc(l, func(t bind.Term) bool {
		return c.owns(t) && slices.ContainsFunc(m, func(u bind.Term) bool { return c.owns(u) && t.Place == u.Place })
	})
}

// known: the columns of a source that must be equal to something that is known ahead of it, each once; and what that is.
func (c *core) known(source int, equations [][]bind.Term) ([]int, []bind.Term) {
	var numbers []int
	var known []bind.Term
	for _, l := range equations {
		t, ok := c.firstKnown(source, l)
		if !ok {
			continue
		}
		for _, u := range l {
			n := u.Place.At - c.Sources[source].From
			if c.owns(u) && u.Place.Source == source && !slices.Contains(numbers, n) {
				numbers, known = append(numbers, n), append(known, t)
			}
		}
	}
	return numbers, known
}

// firstKnown of some terms ahead of a source, without a query if there is such a one.
func (c *core) firstKnown(source int, l []bind.Term) (bind.Term, bool) {
	var first bind.Term
	found := false
	for _, t := range l {
		if c.needs(t) > source {
			continue
		}
		if !asks(t) {
			return t, true
		}
		if !found {
			first, found = t, true
		}
	}
	return first, found
}

// indexColumns: those of a key or an index of a table.
func (c *core) indexColumns(table, index int) []int {
	keys := c.tables[table].Keys
	if index < len(keys) {
		return keys[index]
	}
	return c.tables[table].Indexes[index-len(keys)].Columns
}

// isUnique: are there no two rows with the same values in a key or an index?
func (c *core) isUnique(table, index int) bool {
	keys := c.tables[table].Keys
	return index < len(keys) || c.tables[table].Indexes[index-len(keys)].Unique
}

// bestIndex: of the keys and indexes of a table all of whose columns are known the one that finds the fewest rows, as far as that can be told; -1, if there is none.
func (c *core) bestIndex(table int, known []int) int {
	best := -1
	for i := range len(c.tables[table].Keys) + len(c.tables[table].Indexes) {
		columns := c.indexColumns(table, i)
		if len(columns) > 0 && within(columns, known) && (best < 0 || c.betterIndex(table, i, best)) {
			best = i
		}
	}
	return best
}

// betterIndex: does a key or an index find fewer rows than another one? One that has all columns of the other one does; else one with which no two rows are found; else one of more columns.
func (c *core) betterIndex(table, index, other int) bool {
	x, y := c.indexColumns(table, index), c.indexColumns(table, other)
	switch {
	case within(x, y):
		return false
	case within(y, x):
		return true
	case c.isUnique(table, index) != c.isUnique(table, other):
		return c.isUnique(table, index)
	}
	return len(x) > len(y)
}

// within: are all numbers of a list in another one?
func within(l, m []int) bool {
	return !slices.ContainsFunc(l, func(n int) bool { return !slices.Contains(m, n) })
}
