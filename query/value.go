package query

import (
	"relstore/api"
	"relstore/bind"
	"relstore/value"
)

// The forms of a Case, which may be both.
const (
	caseHeld = 1
	caseElse = 2
)

// frame: a row of a core, or a group of its rows; and those of the cores further out.
type frame struct {
	outer    *frame
	depth    int // how many there are further out
	row      []api.Value
	gathered []api.Value // of a group: what its aggregates are
}

// at a depth: the frame.
func (f *frame) at(depth int) *frame {
	for f.depth > depth {
		f = f.outer
	}
	return f
}

func truth(is bool) api.Value {
	if is {
		return api.Value{Kind: api.Bool, N: 1}
	}
	return api.Value{Kind: api.Bool}
}

func number(n int64) api.Value { return api.Value{Kind: api.Int, N: n} }

func text(s string) api.Value { return api.Value{Kind: api.Text, S: s} }

func isTrue(v api.Value) bool { return v == truth(true) }

func isNull(v api.Value) bool { return v.Kind == api.Null }

// values of terms, one by one.
func (r *run) values(terms []bind.Term, f *frame) []api.Value {
	l := make([]api.Value, len(terms))
	for i := range terms {
		l[i] = r.value(&terms[i], f)
	}
	return l
}

// meets: are terms true, all of them?
func (r *run) meets(terms []bind.Term, f *frame) bool {
	for i := range terms {
		if !isTrue(r.value(&terms[i], f)) {
			return false
		}
	}
	return true
}

// value of a term. What does not matter any more is not looked at: a query in it may have rows to ask for.
func (r *run) value(t *bind.Term, f *frame) api.Value {
	switch t.Op {
	case api.Lit:
		return value.Clean(t.Value)
	case api.Col:
		return f.at(t.Place.Depth).row[t.Place.At]
	case api.Agg:
		return f.gathered[t.Number]
	case api.And, api.Or:
		return r.junction(t, f)
	case api.In:
		return r.in(t, f)
	case api.Exists:
		return truth(len(r.inner(t.Query, forAny, f).rows) > 0)
	case api.Scalar:
		return r.scalar(t, f)
	case api.Case:
		return r.choice(t, f)
	case api.Func:
		return r.function(t, f)
	}
	return reckoned(t, r.values(t.Parts, f))
}

// reckoned: the value of a term by those of its parts.
func reckoned(t *bind.Term, parts []api.Value) api.Value {
	switch t.Op {
	case api.Neg:
		return value.Neg(parts[0])
	case api.Not:
		return value.Not(parts[0])
	case api.IsNull:
		return truth(isNull(parts[0]))
	case api.Cast:
		return value.Cast(parts[0], t.Form)
	case api.Add, api.Sub, api.Mul, api.Div, api.Mod:
		return value.Reckon(t.Op, parts[0], parts[1])
	case api.Concat:
		return value.Concat(parts[0], parts[1])
	case api.Like:
		return value.Like(parts[0], parts[1])
	case api.Between:
		return value.Both(value.Test(api.Ge, parts[0], parts[1]), value.Test(api.Le, parts[0], parts[2]))
	}
	return value.Test(t.Op, parts[0], parts[1])
}

// junction: And or Or.
func (r *run) junction(t *bind.Term, f *frame) api.Value {
	first := r.value(&t.Parts[0], f)
	if t.Op == api.And {
		if first == truth(false) {
			return first
		}
		return value.Both(first, r.value(&t.Parts[1], f))
	}
	if isTrue(first) {
		return first
	}
	return value.Either(first, r.value(&t.Parts[1], f))
}

// in: is the first part among the others, or in the rows of a query?
func (r *run) in(t *bind.Term, f *frame) api.Value {
	first := r.value(&t.Parts[0], f)
	if t.Query != nil {
		return among(first, r.inner(t.Query, forAll, f))
	}
	is := truth(false)
	for i := 1; i < len(t.Parts) && !isTrue(is); i++ {
		is = value.Either(is, value.Test(api.Eq, first, r.value(&t.Parts[i], f)))
	}
	return is
}

// among the rows of a relation, of one column each: is a value one of these? If not, one null is enough to make it unknown.
func among(v api.Value, l *relation) api.Value {
	only := lookupBy([]int{0})
	switch {
	case len(l.rows) == 0:
		return truth(false)
	case isNull(v):
		return api.Value{}
	case len(l.with(only, []api.Value{v})) > 0:
		return truth(true)
	case len(l.with(only, []api.Value{{}})) > 0:
		return api.Value{}
	}
	return truth(false)
}

// scalar: the first row of a query.
func (r *run) scalar(t *bind.Term, f *frame) api.Value {
	rows := r.inner(t.Query, forFirst, f).rows
	if len(rows) == 0 {
		return api.Value{}
	}
	return rows[0][0]
}

// choice of a CASE.
func (r *run) choice(t *bind.Term, f *frame) api.Value {
	parts, held := t.Parts, truth(true)
	if t.Form&caseHeld != 0 {
		held, parts = r.value(&parts[0], f), parts[1:]
	}
	for len(parts) > 1 {
		// A when that nothing is held against must be true, and so equal to true.
		if isTrue(value.Test(api.Eq, held, r.value(&parts[0], f))) {
			return r.value(&parts[1], f)
		}
		parts = parts[2:]
	}
	if t.Form&caseElse != 0 {
		return r.value(&parts[0], f)
	}
	return api.Value{}
}
