package bind

import (
	"math"

	"relstore/api"
)

// The forms of a Case, which may be both, and of an Agg of all rows.
const (
	caseHeld = 1
	caseElse = 2
	aggAll   = 2
)

func kindsOf(terms []Term) []int {
	var kinds []int
	for _, t := range terms {
		kinds = append(kinds, t.Kind)
	}
	return kinds
}

// alike: the kind of what must be alike.
func alike(kinds ...int) int {
	kind := api.Null
	for _, k := range kinds {
		refuse(kind != api.Null && k != api.Null && k != kind, api.ErrType)
		if k != api.Null {
			kind = k
		}
	}
	return kind
}

// all must be of this kind, or null.
func all(kind int, kinds []int) int {
	for _, k := range kinds {
		alike(kind, k)
	}
	return kind
}

// kindOf an expression (but a column or an aggregate), by the kinds of its parts and the columns of its query.
func kindOf(e api.Expr, kinds []int, columns *List) int {
	switch e.Op {
	case api.Lit:
		return e.Value.Kind
	case api.Neg, api.Add, api.Sub, api.Mul, api.Div, api.Mod:
		return all(api.Int, kinds)
	case api.Concat:
		return all(api.Text, kinds)
	case api.Scalar:
		return onlyKind(columns)
	case api.Case:
		return choiceKind(e.Form, kinds)
	case api.Cast:
		return e.Form
	case api.Func:
		return functionKind(e.Name, kinds)
	}
	testParts(e, kinds, columns)
	return api.Bool
}

// testParts: what a test, which is a truth itself, asks of its parts and its query.
func testParts(e api.Expr, kinds []int, columns *List) {
	switch e.Op {
	case api.Not, api.And, api.Or:
		all(api.Bool, kinds)
	case api.Like:
		all(api.Text, kinds)
	case api.Eq, api.Ne, api.Lt, api.Le, api.Gt, api.Ge, api.Between:
		alike(kinds...)
	case api.In:
		if len(e.Sub) > 0 {
			kinds = append(kinds, onlyKind(columns))
		}
		alike(kinds...)
	}
}

// onlyKind: the kind of the only column that there may be.
func onlyKind(columns *List) int {
	refuse(columns.count != sizeOf(1), api.ErrForm)
	return columns.columns[0].kind
}

// choiceKind: of a CASE.
func choiceKind(form int, kinds []int) int {
	whens, thens := []int{api.Bool}, []int{}
	if form&caseHeld != 0 {
		whens, kinds = []int{kinds[0]}, kinds[1:]
	}
	if form&caseElse != 0 {
		last := len(kinds) - 1
		thens, kinds = append(thens, kinds[last]), kinds[:last]
	}
	for i := 0; i < len(kinds); i += 2 {
		whens = append(whens, kinds[i])
		thens = append(thens, kinds[i+1])
	}
	alike(whens...)
	return alike(thens...)
}

func functionKind(name string, kinds []int) int {
	switch name {
	case "length":
		takes(kinds, 1, 1)
		all(api.Text, kinds)
		return api.Int
	case "upper", "lower":
		takes(kinds, 1, 1)
		return all(api.Text, kinds)
	case "abs":
		takes(kinds, 1, 1)
		return all(api.Int, kinds)
	case "substr":
		takes(kinds, 2, 3)
		all(api.Int, kinds[1:])
		return all(api.Text, kinds[:1])
	case "coalesce":
		takes(kinds, 1, math.MaxInt)
		return alike(kinds...)
	case "nullif":
		takes(kinds, 2, 2)
		return alike(kinds...)
	}
	panic(fault{api.ErrName})
}

// takes: a function takes so many parts, not fewer, not more.
func takes(kinds []int, least, most int) {
	refuse(len(kinds) < least || len(kinds) > most, api.ErrForm)
}

func aggregateKind(e api.Expr, kinds []int) int {
	refuse(e.Form == aggAll && e.Name != "count", api.ErrForm)
	switch e.Name {
	case "sum", "avg":
		return all(api.Int, kinds)
	case "min", "max":
		return alike(kinds...)
	}
	return api.Int
}
