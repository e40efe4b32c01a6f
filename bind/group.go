package bind

import (
	"slices"

	"relstore/api"
)

// gathers: is an expression an aggregate, or has it one? Those in queries within belong to others.
func gathers(e api.Expr) bool {
	return e.Op == api.Agg || slices.ContainsFunc(e.Args, gathers)
}

func itemGathers(i api.Item) bool { return gathers(i.Expr) }

func orderGathers(o api.Order) bool { return gathers(o.Expr) }

// group by terms.
func (c *scope) group(terms []Term) {
	c.groups = terms
	for _, t := range terms {
		if c.owns(t) && !c.isAlone(t) {
			c.alone = append(c.alone, t.Place.At)
		}
	}
}

// owns: is a term a column of this core?
func (c *scope) owns(t Term) bool { return t.Op == api.Col && t.Place.Depth == c.depth }

// isAlone: is a column of this core grouped by by itself?
func (c *scope) isAlone(t Term) bool { return slices.Contains(c.alone, t.Place.At) }

// fit: a term must be one that may stand behind the groups, if there are any.
func (c *scope) fit(t Term) {
	refuse(c.grouped && c.hasBare(t), api.ErrForm)
}

// hasBare: has a term a column of this core outside of aggregates and of what is grouped by?
func (c *scope) hasBare(t Term) bool {
	if t.Op == api.Col {
		return c.owns(t) && !c.isAlone(t)
	}
	if t.Op == api.Agg || slices.ContainsFunc(c.groups, t.sameAs) {
		return false
	}
	return slices.ContainsFunc(t.Parts, c.hasBare) || t.Query != nil && slices.ContainsFunc(t.Query.Far, c.hasBare)
}

// sameAs: is a term made the same way as another one?
func (t Term) sameAs(u Term) bool {
	return t.Head == u.Head && t.Query == nil && u.Query == nil && slices.EqualFunc(t.Parts, u.Parts, Term.sameAs)
}
