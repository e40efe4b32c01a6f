package bind

import (
	"slices"

	"relstore/api"
)

// column of a source.
type column struct {
	name    string
	kind    int
	grouped bool // by itself
}

// source of columns, under a name.
type source struct {
	name    string
	columns []column
}

// scope of a core (or a statement): the columns that its expressions may speak of.
type scope struct {
	outer   *scope // of the next core further out; nil: there is none
	sources []source
	grouped bool
	groups  []term // what is grouped by
}

// place of a column: which one of which source of which core.
type place struct {
	core           *scope
	source, column int
}

// add a source, behind the others.
func (c *scope) add(s source) {
	refuse(c.has(s.name), api.ErrExists)
	c.sources = append(c.sources, s)
}

// has a source of this name?
func (c *scope) has(name string) bool {
	return slices.ContainsFunc(c.sources, func(s source) bool { return s.name == name })
}

// at a place of this core: the column.
func (c *scope) at(p place) *column { return &c.sources[p.source].columns[p.column] }

// find the column that an expression names, in the innermost core that has one.
func (c *scope) find(e api.Expr) place {
	for ; c != nil; c = c.outer {
		places := c.named(e.Table, e.Name)
		refuse(len(places) > 1, api.ErrName)
		if len(places) == 1 {
			return places[0]
		}
	}
	panic(fault{api.ErrName})
}

// named: the places in this core that a name may mean.
func (c *scope) named(table, name string) []place {
	var l []place
	for i, s := range c.sources {
		if table != "" && table != s.name {
			continue
		}
		for j, x := range s.columns {
			if x.name == name {
				l = append(l, place{c, i, j})
			}
		}
	}
	return l
}

// tableSource: a table under a name.
func tableSource(name string, columns []api.ColumnDef) source {
	s := source{name, make([]column, len(columns))}
	for i, c := range columns {
		s.columns[i] = column{name: c.Name, kind: c.Kind}
	}
	return s
}

// querySource: a query under a name.
func querySource(name string, columns []api.Column) source {
	s := source{name, make([]column, len(columns))}
	for i, c := range columns {
		s.columns[i] = column{name: c.Name, kind: c.Kind}
	}
	return s
}
