package value_test

import (
	"math"
	"slices"
	"strings"
	"testing"

	"relstore/api"
	"relstore/value"
)

// anyOps: all that are named, and others.
func anyOps() []int {
	l := []int{math.MinInt, -1, 256, math.MaxInt}
	for op := range api.Agg + 3 {
		l = append(l, op)
	}
	return l
}

// P1, and that all values that come out are clean.
func TestEachCallAnswersCleanValues(t *testing.T) {
	clean := func(v api.Value) {
		if !isClean(v) {
			t.Helper()
			t.Errorf("%v is not clean", v)
		}
	}
	for _, x := range all() {
		clean(value.Clean(x))
		clean(value.Not(x))
		clean(value.Neg(x))
		value.Show(x)
		for _, kind := range anyOps() {
			clean(value.Cast(x, kind))
		}
		for _, y := range all() {
			value.Order(x, y)
			clean(value.Both(x, y))
			clean(value.Either(x, y))
			clean(value.Concat(x, y))
			clean(value.Like(x, y))
			for _, op := range anyOps() {
				clean(value.Test(op, x, y))
				clean(value.Reckon(op, x, y))
			}
		}
	}
}

// P1
func TestListsOfAnything(t *testing.T) {
	for _, l := range [][]api.Value{nil, {}, all(), slices.Repeat(all(), 50)} {
		value.Rows(l, all())
		value.Rows(all(), l)
		value.Key(l)
		value.Pack(l)
	}
	huge := strings.Repeat("\x00", 1<<20)
	value.Unkey(huge)
	value.Unkey("\x05" + huge)
	value.Unpack(huge)
	value.Unpack("\x40" + huge)
}

// P2
func TestListsHandedInAreNotChanged(t *testing.T) {
	// More room than values: what lies there is the caller's as well.
	l := append(all(), s("behind"))
	was := slices.Clone(l)
	few := l[:len(l)-1]
	value.Rows(few, few)
	value.Key(few)
	value.Pack(few)
	value.Pack(few[:10])
	if !slices.Equal(l, was) {
		t.Error("a list was changed")
	}
}

// P2
func TestListsThatComeOutAreNewMemory(t *testing.T) {
	l := []api.Value{null, b(true), n(7), s("a\x00b"), s("")}
	key := value.Key(l)
	packed, _ := value.Pack(l)
	for name, read := range map[string]func() ([]api.Value, api.Errno){
		"Unkey":  func() ([]api.Value, api.Errno) { return value.Unkey(key) },
		"Unpack": func() ([]api.Value, api.Errno) { return value.Unpack(packed) },
	} {
		first, _ := read()
		second, _ := read()
		spoil(first)
		third, _ := read()
		if !slices.Equal(second, l) || !slices.Equal(third, l) {
			t.Errorf("%s: %v, %v", name, second, third)
		}
	}
}

// spoil a list, spare room included.
func spoil(l []api.Value) {
	l = l[:cap(l)]
	for i := range l {
		l[i] = s("spoiled")
	}
}

// P2: what Key and Pack have given does not hang on what becomes of the list.
func TestTextsThatComeOutStay(t *testing.T) {
	l := []api.Value{s("abc"), n(1)}
	key := value.Key(l)
	packed, _ := value.Pack(l)
	spoil(l)
	if key != "\x05abc\x00\x01\x04\x80\x00\x00\x00\x00\x00\x00\x01" || packed != "\x02\x03\x00\x03abc\x02\x00\x00\x00\x00\x00\x00\x00\x01" {
		t.Errorf("%q, %q", key, packed)
	}
}
