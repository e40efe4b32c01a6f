package bind

import "relstore/api"

// setting: among which columns an expression stands, and what may stand in it.
type setting struct {
	*binder
	here                *scope
	aggregates, queries bool
}

func (x setting) terms(l []api.Expr) []Term {
	var terms []Term
	for _, e := range l {
		terms = append(terms, x.term(e))
	}
	return terms
}

func (x setting) term(e api.Expr) Term {
	switch e.Op {
	case api.Col:
		t := x.here.find(e)
		x.spoken = append(x.spoken, t)
		return t
	case api.Agg:
		return x.aggregateTerm(e)
	}
	t := Term{Head: Head{Op: e.Op, Name: e.Name, Value: e.Value, Form: e.Form}, Parts: x.terms(e.Args)}
	var columns *List
	if len(e.Sub) > 0 {
		refuse(!x.queries, api.ErrForm)
		t.Query = x.query(x.here, e.Sub[0])
		columns = t.Query.Columns
	}
	t.Kind = kindOf(e, kindsOf(t.Parts), columns)
	return t
}

func (x setting) aggregateTerm(e api.Expr) Term {
	refuse(!x.aggregates, api.ErrForm)
	x.aggregates = false
	t := Term{Head: Head{Op: api.Agg, Name: e.Name, Form: e.Form}, Parts: x.terms(e.Args)}
	t.Kind = aggregateKind(e, kindsOf(t.Parts))
	t.Number = len(x.here.aggregates)
	x.here.aggregates = append(x.here.aggregates, t)
	return t
}

// truths: terms that must be truths, one by one.
func (x setting) truths(l []api.Expr) []Term {
	var terms []Term
	for _, e := range l {
		t := x.term(e)
		alike(api.Bool, t.Kind)
		terms = append(terms, t)
	}
	return terms
}
