package query

import (
	"slices"

	"relstore/api"
	"relstore/value"
)

// slack: how many records more than needed are collected ahead of sorting, at least.
const slack = 1000

// collection of a query's records, of which the first ones are needed.
type collection struct {
	*plan
	most int64 // how many of them; below 0: all
	kept []record
}

// add a record; are there more wanted?
func (c *collection) add(r record) bool {
	c.kept = append(c.kept, r)
	count := int64(len(c.kept))
	if c.most < 0 {
		return true
	}
	if !c.ordered {
		return count < c.most
	}
	if (count-slack)/2 > c.most {
		c.sort()
		clear(c.kept[c.most:])
		c.kept = c.kept[:c.most]
	}
	return true
}

// sort the records.
func (c *collection) sort() { slices.SortFunc(c.kept, c.compare) }

// compare two records: by what they are ordered by, then by their rows.
func (c *collection) compare(a, b record) int {
	for i, o := range c.order {
		d := value.Order(a.keys[i], b.keys[i])
		if d != 0 && o.Desc {
			return -d
		}
		if d != 0 {
			return d
		}
	}
	return value.Rows(a.row, b.row)
}

// rows that are told.
func (c *collection) rows() [][]api.Value {
	if c.ordered {
		c.sort()
	}
	count := int64(len(c.kept))
	from, to := min(c.skip, count), count
	if c.most >= 0 {
		to = min(c.most, count)
	}
	var l [][]api.Value
	for _, r := range c.kept[from:to] {
		l = append(l, r.row)
	}
	return l
}
