package value_test

import (
	"math"
	"math/big"
	"testing"

	"relstore/api"
	"relstore/value"
)

// edges: numbers at which sums, products and quotients are beyond 64 bits, or just not.
func edges() []int64 {
	var l []int64
	for _, i := range []int64{0, 10, 100, 1 << 31, 1 << 32, 3037000499, 3037000500, 1 << 62, most / 2, most / 3, most} {
		for d := int64(-2); d <= 2; d++ {
			l = append(l, i+d, -(i + d))
		}
	}
	return append(l, least)
}

// exact tells what comes out without a limit; nil: nothing does.
func exact(op int, x, y int64) *big.Int {
	a, c := big.NewInt(x), big.NewInt(y)
	switch op {
	case api.Add:
		return a.Add(a, c)
	case api.Sub:
		return a.Sub(a, c)
	case api.Mul:
		return a.Mul(a, c)
	}
	if y == 0 {
		return nil
	}
	q, r := new(big.Int).QuoRem(a, c, new(big.Int))
	if op == api.Div || !q.IsInt64() {
		return q
	}
	return r
}

// P5
func TestReckonAtTheEdges(t *testing.T) {
	for _, op := range []int{api.Add, api.Sub, api.Mul, api.Div, api.Mod} {
		for _, x := range edges() {
			for _, y := range edges() {
				want := null
				if e := exact(op, x, y); e != nil && e.IsInt64() {
					want = n(e.Int64())
				}
				if got := value.Reckon(op, n(x), n(y)); got != want {
					t.Errorf("Reckon(%d, %d, %d): %v, not %v", op, x, y, got, want)
				}
			}
		}
	}
}

// P5
func TestReckonByTheDocument(t *testing.T) {
	for i, x := range []struct {
		op         int
		a, b, want api.Value
	}{
		{api.Div, n(-7), n(2), n(-3)},
		{api.Div, n(7), n(-2), n(-3)},
		{api.Div, n(-7), n(-2), n(3)},
		{api.Mod, n(-7), n(4), n(-3)},
		{api.Mod, n(7), n(-4), n(3)},
		{api.Mod, n(-7), n(-4), n(-3)},
		{api.Div, n(0), n(0), null},
		{api.Mod, n(0), n(0), null},
		{api.Div, n(least), n(-1), null},
		{api.Mod, n(least), n(-1), null},
		{api.Mul, n(least), n(-1), null},
		{api.Mul, n(-1), n(least), null},
		{api.Mul, n(least), n(1), n(least)},
		{api.Add, n(most), n(1), null},
		{api.Add, api.Value{Kind: api.Int, N: 2, S: "x"}, api.Value{Kind: api.Int, N: 3, S: "5"}, n(5)},
	} {
		if got := value.Reckon(x.op, x.a, x.b); got != x.want {
			t.Errorf("row %d: %v, not %v", i, got, x.want)
		}
	}
}

// P5
func TestReckonWithWhatIsNoNumber(t *testing.T) {
	for _, op := range []int{api.Add, api.Sub, api.Mul, api.Div, api.Mod} {
		for _, v := range all() {
			if v.Kind == api.Int {
				continue
			}
			for _, i := range []int64{0, 1} {
				if got := value.Reckon(op, v, n(i)); got != null {
					t.Errorf("Reckon(%d, %v, %d): %v", op, v, i, got)
				}
				if got := value.Reckon(op, n(i), v); got != null {
					t.Errorf("Reckon(%d, %d, %v): %v", op, i, v, got)
				}
			}
		}
	}
}

// P5
func TestOpsThatReckonNothing(t *testing.T) {
	ops := []int{math.MinInt, -1, 0, api.Add - 256, api.Add + 256, api.Add + 1<<32, math.MaxInt}
	for op := api.Lit; op < api.Add; op++ {
		ops = append(ops, op)
	}
	for op := api.Mod + 1; op < 100; op++ {
		ops = append(ops, op)
	}
	for _, op := range ops {
		if got := value.Reckon(op, n(7), n(2)); got != null {
			t.Errorf("Reckon(%d, 7, 2): %v", op, got)
		}
	}
}

// P5
func TestNeg(t *testing.T) {
	for _, v := range all() {
		want := null
		if v.Kind == api.Int && v.N != least {
			want = n(-v.N)
		}
		if got := value.Neg(v); got != want {
			t.Errorf("Neg(%v): %v, not %v", v, got, want)
		}
	}
}
