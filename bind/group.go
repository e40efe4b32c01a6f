package bind

import (
	"slices"

	"relstore/api"
)

// gathers: is an expression an aggregate, or has it one? Those in queries within belong to others.
func gathers(e api.Expr) bool {
	return e.Op == api.Agg || slices.ContainsFunc(e.Args, gathers)
}

func itemGathers(i api.Item) bool { return gathers(i.Expr) }

func orderGathers(o api.Order) bool { return gathers(o.Expr) }

// group by terms.
func (c *scope) group(terms []term) {
	c.groups = terms
	for _, t := range terms {
		if t.op == api.Col && t.place.core == c {
			c.at(t.place).grouped = true
		}
	}
}

// fit: a term must be one that may stand behind the groups, if there are any.
func (c *scope) fit(t term) {
	refuse(c.grouped && c.hasBare(t), api.ErrForm)
}

// hasBare: has a term a column of this core outside of aggregates and of what is grouped by?
func (c *scope) hasBare(t term) bool {
	if t.op == api.Col {
		return t.place.core == c && !c.at(t.place).grouped
	}
	if t.op == api.Agg || slices.ContainsFunc(c.groups, t.sameAs) {
		return false
	}
	return slices.ContainsFunc(t.parts, c.hasBare) || slices.ContainsFunc(t.far, c.hasBare)
}

// sameAs: is a term made the same way as another one?
func (t term) sameAs(u term) bool {
	return t.head == u.head && !t.asks && !u.asks && slices.EqualFunc(t.parts, u.parts, term.sameAs)
}
