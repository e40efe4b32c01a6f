package value_test

import (
	"math"
	"testing"

	"relstore/api"
	"relstore/value"
)

// P4
func TestComparisons(t *testing.T) {
	for op, means := range map[int]func(int) bool{
		api.Eq: func(o int) bool { return o == 0 },
		api.Ne: func(o int) bool { return o != 0 },
		api.Lt: func(o int) bool { return o < 0 },
		api.Le: func(o int) bool { return o <= 0 },
		api.Gt: func(o int) bool { return o > 0 },
		api.Ge: func(o int) bool { return o >= 0 },
	} {
		for i, v := range rising() {
			for k, w := range rising() {
				want := null
				if v.Kind == w.Kind && v.Kind != api.Null {
					want = b(means(i - k))
				}
				for _, x := range soiled(v) {
					for _, y := range soiled(w) {
						if got := value.Test(op, x, y); got != want {
							t.Fatalf("Test(%d, %v, %v): %v, not %v", op, x, y, got, want)
						}
					}
				}
			}
		}
	}
}

// P4
func TestOpsThatCompareNothing(t *testing.T) {
	ops := []int{math.MinInt, -1, 0, api.Eq - 256, api.Eq + 256, api.Eq + 1<<32, math.MaxInt}
	for op := api.Lit; op < api.Eq; op++ {
		ops = append(ops, op)
	}
	for op := api.Ge + 1; op < 100; op++ {
		ops = append(ops, op)
	}
	for _, op := range ops {
		for _, v := range []api.Value{null, b(true), n(1), s("a")} {
			if got := value.Test(op, v, v); got != null {
				t.Errorf("Test(%d, %v, %v): %v", op, v, v, got)
			}
		}
	}
}

// truths of three kinds, and of what is no truth, which counts as null.
func truths() map[api.Value]int {
	m := map[api.Value]int{}
	for _, v := range all() {
		switch {
		case v.Kind != api.Bool:
			m[v] = 1
		case v.N != 0:
			m[v] = 2
		default:
			m[v] = 0
		}
	}
	return m
}

// P4
func TestTruths(t *testing.T) {
	// False 0, null 1, true 2: Both is the lesser, Either the greater of two.
	of := [3]api.Value{b(false), null, b(true)}
	for x, i := range truths() {
		if got := value.Not(x); got != of[2-i] {
			t.Errorf("Not(%v): %v", x, got)
		}
		for y, k := range truths() {
			if got := value.Both(x, y); got != of[min(i, k)] {
				t.Errorf("Both(%v, %v): %v", x, y, got)
			}
			if got := value.Either(x, y); got != of[max(i, k)] {
				t.Errorf("Either(%v, %v): %v", x, y, got)
			}
		}
	}
}
