package mvcc

import (
	"cmp"
	"math"
	"strings"

	"relstore/api"
)

// place of an entry.
type place struct {
	table int
	key   string
}

// compare places: by tables, then by keys.
func (p place) compare(q place) int {
	return cmp.Or(cmp.Compare(p.table, q.table), strings.Compare(p.key, q.key))
}

// mayBe: may there be an entry at this place?
func (p place) mayBe() bool {
	return isTable(p.table) && len(p.key) > 0 && len(p.key) <= api.MaxKey
}

// isTable: may there be a table of this number?
func isTable(table int) bool { return table >= 0 && table <= math.MaxInt32 }

// image of an entry at some time. One that is not there has no value, so that images can be compared whole.
type image struct {
	value string
	there bool
}

// meets: is it there, and does it meet a condition?
func (m image) meets(key string, cond api.Cond) bool {
	return m.there && met(cond, key, m.value)
}

// met: is a condition met? One that panics does not say so.
func met(cond api.Cond, key, value string) bool {
	defer func() { _ = recover() }()
	return cond == nil || cond.Meets(key, value)
}

// span: a range of a table's keys.
type span struct {
	table    int
	from, to string // they are not below from and, unless to is empty, below to
}

// holds: is a place in the range?
func (r span) holds(p place) bool {
	return p.table == r.table && p.key >= r.from && (r.to == "" || p.key < r.to)
}
