package value

import (
	"strconv"

	"relstore/api"
)

// Concat is two texts as one.
func Concat(a, b api.Value) api.Value {
	if a.Kind != api.Text || b.Kind != api.Text || len(a.S)+len(b.S) > api.MaxString {
		return api.Value{}
	}
	return text(a.S + b.S)
}

// Like tells whether a text is as a pattern says.
func Like(a, p api.Value) api.Value {
	if a.Kind != api.Text || p.Kind != api.Text {
		return api.Value{}
	}
	return truth(matches(a.S, p.S))
}

// matches goes back to the last % alone: whatever an earlier one could take
// more, the last one can take as well, so no more than len(s) * len(p) steps
// are needed.
func matches(s, p string) bool {
	at, in := 0, 0
	last, taken := -1, 0
	for at < len(s) {
		switch {
		case in < len(p) && p[in] == '%':
			last, taken = in, at
			in++
		case in < len(p) && (p[in] == '_' || p[in] == s[at]):
			at++
			in++
		case last >= 0:
			taken++
			at, in = taken, last+1
		default:
			return false
		}
	}
	for in < len(p) && p[in] == '%' {
		in++
	}
	return in == len(p)
}

// Show a value as a text.
func Show(v api.Value) string {
	switch v.Kind {
	case api.Bool:
		return strconv.FormatBool(v.N != 0)
	case api.Int:
		return strconv.FormatInt(v.N, 10)
	case api.Text:
		return v.S
	}
	return "null"
}

// Cast makes a value one of another kind.
func Cast(v api.Value, kind int) api.Value {
	v = Clean(v)
	if v.Kind == api.Null || v.Kind == kind {
		return v
	}
	switch kind {
	case api.Bool:
		return toTruth(v)
	case api.Int:
		return toNumber(v)
	case api.Text:
		return text(Show(v))
	}
	return api.Value{}
}

// toTruth of a number or a text.
func toTruth(v api.Value) api.Value {
	switch {
	case v.Kind == api.Int:
		return truth(v.N != 0)
	case v.S == "true":
		return truth(true)
	case v.S == "false":
		return truth(false)
	}
	return api.Value{}
}

// toNumber of a truth or a text.
func toNumber(v api.Value) api.Value {
	if v.Kind == api.Bool {
		return number(v.N)
	}
	if v.S == "" || v.S[0] == '+' {
		// ParseInt would take the sign.
		return api.Value{}
	}
	n, err := strconv.ParseInt(v.S, 10, 64)
	if err != nil {
		return api.Value{}
	}
	return number(n)
}
