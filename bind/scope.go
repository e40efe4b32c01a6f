package bind

import (
	"slices"

	"relstore/api"
)

// source of columns, under a name.
type source struct {
	name string
	list *List
	from int // where they stand in a row of the core
}

// scope of a core (or a statement): the columns that its expressions may speak of.
type scope struct {
	outer      *scope // of the next core further out; nil: there is none
	depth      int    // how many cores are further out
	sources    []source
	width      int // of a row
	grouped    bool
	groups     []Term // what is grouped by
	alone      []int  // the columns that are grouped by by themselves
	aggregates []Term
}

func newScope(outer *scope) *scope {
	if outer == nil {
		return &scope{}
	}
	return &scope{outer: outer, depth: outer.depth + 1}
}

// add a source, behind the others.
func (c *scope) add(name string, l *List) {
	refuse(c.has(name), api.ErrExists)
	c.sources = append(c.sources, source{name, l, c.width})
	c.width += len(l.columns)
}

// has a source of this name?
func (c *scope) has(name string) bool {
	return slices.ContainsFunc(c.sources, func(s source) bool { return s.name == name })
}

// column of a source: a term.
func (c *scope) column(source, number int) Term {
	s := c.sources[source]
	return Term{Head: Head{Op: api.Col, Place: Place{c.depth, source, s.from + number}}, Kind: s.list.columns[number].kind}
}

// find the column that an expression names, in the innermost core that has one.
func (c *scope) find(e api.Expr) Term {
	for ; c != nil; c = c.outer {
		columns := c.named(e.Table, e.Name)
		refuse(len(columns) > 1, api.ErrName)
		if len(columns) == 1 {
			return columns[0]
		}
	}
	panic(fault{api.ErrName})
}

// named: the columns in this core that a name may mean. One that comes more than once is told as often.
func (c *scope) named(table, name string) []Term {
	var l []Term
	for i, s := range c.sources {
		if table != "" && table != s.name {
			continue
		}
		for j, x := range s.list.columns {
			if x.name != name {
				continue
			}
			l = append(l, c.column(i, j))
			if x.many {
				l = append(l, c.column(i, j))
			}
		}
	}
	return l
}
