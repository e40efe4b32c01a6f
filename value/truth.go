package value

import "relstore/api"

// Test two values by a comparison.
func Test(op int, a, b api.Value) api.Value {
	a, b = Clean(a), Clean(b)
	if a.Kind == api.Null || a.Kind != b.Kind {
		return api.Value{}
	}
	o := Order(a, b)
	switch op {
	case api.Eq:
		return truth(o == 0)
	case api.Ne:
		return truth(o != 0)
	case api.Lt:
		return truth(o < 0)
	case api.Le:
		return truth(o <= 0)
	case api.Gt:
		return truth(o > 0)
	case api.Ge:
		return truth(o >= 0)
	}
	return api.Value{}
}

// Both is the truth of two.
func Both(a, b api.Value) api.Value {
	switch {
	case isFalse(a) || isFalse(b):
		return truth(false)
	case isTrue(a) && isTrue(b):
		return truth(true)
	}
	return api.Value{}
}

// Either is the truth of one of two.
func Either(a, b api.Value) api.Value {
	switch {
	case isTrue(a) || isTrue(b):
		return truth(true)
	case isFalse(a) && isFalse(b):
		return truth(false)
	}
	return api.Value{}
}

// Not is a truth turned about.
func Not(a api.Value) api.Value {
	if a.Kind != api.Bool {
		return api.Value{}
	}
	return truth(isFalse(a))
}

func isTrue(v api.Value) bool { return v.Kind == api.Bool && v.N != 0 }

func isFalse(v api.Value) bool { return v.Kind == api.Bool && v.N == 0 }
