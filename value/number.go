package value

import (
	"math"

	"relstore/api"
)

// Reckon with two numbers.
func Reckon(op int, a, b api.Value) api.Value {
	if a.Kind != api.Int || b.Kind != api.Int {
		return api.Value{}
	}
	n, ok := int64(0), false
	switch op {
	case api.Add:
		n, ok = add(a.N, b.N)
	case api.Sub:
		n, ok = subtract(a.N, b.N)
	case api.Mul:
		n, ok = multiply(a.N, b.N)
	case api.Div:
		n, ok = divide(a.N, b.N)
	case api.Mod:
		n, ok = remainder(a.N, b.N)
	}
	if !ok {
		return api.Value{}
	}
	return number(n)
}

// Neg turns a number's sign.
func Neg(a api.Value) api.Value { return Reckon(api.Sub, number(0), a) }

func add(a, b int64) (int64, bool) {
	sum := a + b
	// A sum that has wrapped round lies on the wrong side of a.
	return sum, (sum < a) == (b < 0)
}

func subtract(a, b int64) (int64, bool) {
	rest := a - b
	return rest, (rest > a) == (b < 0)
}

func multiply(a, b int64) (int64, bool) {
	if a == 0 || b == 0 {
		return 0, true
	}
	if leastByMinusOne(a, b) || leastByMinusOne(b, a) {
		// Dividing back does not show this one: it wraps round as well.
		return 0, false
	}
	product := a * b
	return product, product/b == a
}

func divide(a, b int64) (int64, bool) {
	if b == 0 || leastByMinusOne(a, b) {
		return 0, false
	}
	return a / b, true
}

func remainder(a, b int64) (int64, bool) {
	if b == 0 || leastByMinusOne(a, b) {
		return 0, false
	}
	return a % b, true
}

// leastByMinusOne tells the one pair whose quotient is beyond 64 bits.
func leastByMinusOne(a, b int64) bool { return a == math.MinInt64 && b == -1 }
