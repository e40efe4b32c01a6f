// Package value: values, and what is reckoned with them.
package value

import (
	"cmp"

	"relstore/api"
)

// Clean is the value with nothing in it that its kind does not need.
func Clean(v api.Value) api.Value {
	switch v.Kind {
	case api.Bool:
		return truth(v.N != 0)
	case api.Int:
		return number(v.N)
	case api.Text:
		return text(v.S)
	}
	return api.Value{}
}

// Order of two values.
func Order(a, b api.Value) int {
	a, b = Clean(a), Clean(b)
	// The kinds' numbers rise in the order in which the kinds stand, and of
	// clean values those fields that a kind does not need are all the same.
	return cmp.Or(cmp.Compare(a.Kind, b.Kind), cmp.Compare(a.N, b.N), cmp.Compare(a.S, b.S))
}

// Rows: the order of two lists.
func Rows(l, m []api.Value) int {
	for i := range min(len(l), len(m)) {
		if o := Order(l[i], m[i]); o != 0 {
			return o
		}
	}
	return cmp.Compare(len(l), len(m))
}

func truth(is bool) api.Value {
	if is {
		return api.Value{Kind: api.Bool, N: 1}
	}
	return api.Value{Kind: api.Bool}
}

func number(n int64) api.Value { return api.Value{Kind: api.Int, N: n} }

func text(s string) api.Value { return api.Value{Kind: api.Text, S: s} }
