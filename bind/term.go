package bind

import "relstore/api"

// head of a term: how it is made, but for its parts.
type head struct {
	op    int
	name  string    // of a function or an aggregate
	value api.Value // of a literal
	form  int
	place place // of a column, however it is named
}

// term: an expression of which the names and the kind were found.
type term struct {
	head
	kind  int
	parts []term
	asks  bool   // it has a query
	far   []term // the columns that this query speaks of
}

// setting: among which columns an expression stands, and what may stand in it.
type setting struct {
	*binder
	here                *scope
	aggregates, queries bool
}

func (x setting) terms(l []api.Expr) []term {
	var terms []term
	for _, e := range l {
		terms = append(terms, x.term(e))
	}
	return terms
}

func (x setting) term(e api.Expr) term {
	switch e.Op {
	case api.Col:
		return x.columnTerm(e)
	case api.Agg:
		return x.aggregateTerm(e)
	}
	t := term{head: head{op: e.Op, name: e.Name, value: e.Value, form: e.Form}, parts: x.terms(e.Args), asks: len(e.Sub) > 0}
	var columns []api.Column
	if t.asks {
		refuse(!x.queries, api.ErrForm)
		columns, t.far = x.inner(e.Sub[0])
	}
	t.kind = kindOf(e, kindsOf(t.parts), columns)
	return t
}

// inner: a query within an expression: its columns, and those that it speaks of.
func (x setting) inner(q api.Select) ([]api.Column, []term) {
	before := len(x.spoken)
	columns := x.query(x.here, q)
	return columns, x.spoken[before:]
}

func (x setting) columnTerm(e api.Expr) term {
	p := x.here.find(e)
	t := term{head: head{op: api.Col, place: p}, kind: p.core.at(p).kind}
	x.spoken = append(x.spoken, t)
	return t
}

func (x setting) aggregateTerm(e api.Expr) term {
	refuse(!x.aggregates, api.ErrForm)
	x.aggregates = false
	t := term{head: head{op: api.Agg, name: e.Name, form: e.Form}, parts: x.terms(e.Args)}
	t.kind = aggregateKind(e, kindsOf(t.parts))
	return t
}

// truths: terms that must be truths, one by one.
func (x setting) truths(l []api.Expr) []term {
	var terms []term
	for _, e := range l {
		t := x.term(e)
		alike(api.Bool, t.kind)
		terms = append(terms, t)
	}
	return terms
}
