package query

import (
	"math"
	"slices"

	"relstore/api"
	"relstore/bind"
	"relstore/value"
)

// function: its value.
func (r *run) function(t *bind.Term, f *frame) api.Value {
	if t.Name == "coalesce" {
		return r.coalesce(t, f)
	}
	parts := r.values(t.Parts, f)
	if t.Name == "nullif" {
		if isTrue(value.Test(api.Eq, parts[0], parts[1])) {
			return api.Value{}
		}
		return parts[0]
	}
	if slices.ContainsFunc(parts, isNull) {
		return api.Value{}
	}
	switch t.Name {
	case "length":
		return number(int64(len(parts[0].S)))
	case "upper":
		return text(turned(parts[0].S, 'a', 'z'))
	case "lower":
		return text(turned(parts[0].S, 'A', 'Z'))
	case "abs":
		if parts[0].N < 0 {
			return value.Neg(parts[0])
		}
		return parts[0]
	}
	return substr(parts)
}

// coalesce: the first part that is not null.
func (r *run) coalesce(t *bind.Term, f *frame) api.Value {
	for i := range t.Parts {
		if v := r.value(&t.Parts[i], f); !isNull(v) {
			return v
		}
	}
	return api.Value{}
}

// turned: the letters of this range, small ones to capital ones or the other way about.
func turned(s string, from, to byte) string {
	b := []byte(s)
	for i, c := range b {
		if c >= from && c <= to {
			b[i] = c ^ ('a' ^ 'A')
		}
	}
	return string(b)
}

// substr: the bytes of a text from one place on, and so many at most, if it is told.
func substr(parts []api.Value) api.Value {
	s, from := parts[0].S, parts[1].N
	end := int64(len(s)) + 1
	if len(parts) > 2 {
		count := parts[2].N
		if count < 0 {
			return api.Value{}
		}
		if from <= math.MaxInt64-count {
			end = min(end, from+count)
		}
	}
	first := max(from, 1)
	if first >= end {
		return text("")
	}
	return text(s[first-1 : end-1])
}
