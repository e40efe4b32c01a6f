package value_test

import (
	"math"
	"slices"
	"strings"

	"relstore/api"
)

const least, most = math.MinInt64, math.MaxInt64

var null = api.Value{}

func n(i int64) api.Value { return api.Value{Kind: api.Int, N: i} }

func s(t string) api.Value { return api.Value{Kind: api.Text, S: t} }

func b(is bool) api.Value {
	if is {
		return api.Value{Kind: api.Bool, N: 1}
	}
	return api.Value{Kind: api.Bool}
}

// rising values: each one is clean, and ahead of the next.
func rising() []api.Value {
	l := []api.Value{null, b(false), b(true)}
	for _, i := range []int64{least, least + 1, -1 << 32, -256, -255, -2, -1, 0, 1, 2, 255, 256, 1 << 32, most - 1, most} {
		l = append(l, n(i))
	}
	for _, t := range []string{"", "\x00", "\x00\x00", "\x00\x01", "\x00\xff", "\x01", "%", "A", "Z", "a", "a\x00", "a\x00b", "a\x01", "aa", "ab", "b", "é", "\xff", "\xff\x00", "\xff\xff", "\xff\xff" + strings.Repeat("x", 2000)} {
		l = append(l, s(t))
	}
	return l
}

// soiled forms of a clean value: all of them are the same value.
func soiled(v api.Value) []api.Value {
	switch {
	case v.Kind == api.Int:
		return []api.Value{v, {Kind: v.Kind, N: v.N, S: "x"}}
	case v.Kind == api.Text:
		return []api.Value{v, {Kind: v.Kind, N: -1, S: v.S}, {Kind: v.Kind, N: 1, S: v.S}}
	case v == b(false):
		return []api.Value{v, {Kind: v.Kind, S: "true"}}
	case v == b(true):
		return []api.Value{v, {Kind: v.Kind, N: -7, S: "x"}, {Kind: v.Kind, N: 256}, {Kind: v.Kind, N: least}}
	}
	long := strings.Repeat("x", 1001)
	return []api.Value{v, {N: 1, S: "x"}, {S: long}, {Kind: 4, N: 7}, {Kind: -1, S: "x"}, {Kind: 256}, {Kind: 257, N: 1}, {Kind: 258, N: 5}, {Kind: 259, S: long}, {Kind: math.MinInt}, {Kind: math.MaxInt}}
}

// all values of rising, each in all its forms.
func all() []api.Value {
	var l []api.Value
	for _, v := range rising() {
		l = append(l, soiled(v)...)
	}
	return l
}

// isClean tells it by the words of the document alone.
func isClean(v api.Value) bool {
	switch v.Kind {
	case api.Null:
		return v.N == 0 && v.S == ""
	case api.Bool:
		return (v.N == 0 || v.N == 1) && v.S == ""
	case api.Int:
		return v.S == ""
	case api.Text:
		return v.N == 0
	}
	return false
}

// lists of up to so many of these values.
func lists(values []api.Value, longest int) [][]api.Value {
	l := [][]api.Value{nil}
	from := 0
	for range longest {
		till := len(l)
		for _, shorter := range l[from:till] {
			for _, v := range values {
				l = append(l, append(slices.Clone(shorter), v))
			}
		}
		from = till
	}
	return l
}

// texts of up to so many of these bytes.
func texts(bytes string, longest int) []string {
	l := []string{""}
	from := 0
	for range longest {
		till := len(l)
		for _, shorter := range l[from:till] {
			for i := range len(bytes) {
				l = append(l, shorter+bytes[i:i+1])
			}
		}
		from = till
	}
	return l
}
