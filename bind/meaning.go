package bind

import "relstore/api"

// Query: what a query means, if it means something.
type Query struct {
	Number  int // among the queries of a call
	Columns *List
	Cores   []Core
	Ops     []int
	Order   []Order
	Far     []Term // the columns of cores further out that it speaks of, each once

	Limit, Offset int64
}

// Core of a query. A row of it has all columns of its sources, one source behind the other: of a source that is a query those that are not the same as others.
type Core struct {
	Depth      int // how many cores are further out
	Distinct   bool
	Sources    []Source
	Where      []Term // none, or one; likewise Having
	Group      []Term
	Having     []Term
	Grouped    bool
	Aggregates []Term
	Items      []Term // its columns that are not the same as others
	At         []int  // which of these the query's columns are
}

// Source of a core: a table by its number, or a query.
type Source struct {
	Join     int
	Table    int
	Query    *Query // none: nil
	From, To int    // where its columns stand in a row of the core
	On       []Term // none, or one
}

// Order of a query: by its column of this number (among those that are not the same as others), or, if that is below 0, by a term.
type Order struct {
	Column int
	Term   Term
	Desc   bool
}

// Place of a column: in a row of the core with so many further out; of which source.
type Place struct{ Depth, Source, At int }

// Head of a term: how it is made, but for its parts.
type Head struct {
	Op    int
	Name  string    // of a function or an aggregate
	Value api.Value // of a literal
	Form  int
	Place Place // of a column, however it is named
}

// Term: an expression of which the names and the kind were found.
type Term struct {
	Head
	Kind   int
	Number int // of an aggregate, among those of its core
	Parts  []Term
	Query  *Query // none: nil
}

// Resolve: what a query means, or why it means nothing.
func Resolve(tables []api.Table, q api.Select) (*Query, api.Errno) {
	return resolve(newBinder(tables, true), q)
}

func resolve(b *binder, q api.Select) (*Query, api.Errno) {
	var made *Query
	e := caught(func() { made = b.query(nil, q) })
	return made, e
}
