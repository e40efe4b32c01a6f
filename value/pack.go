package value

import "relstore/api"

// Pack writes the values of a row.
func Pack(l []api.Value) (string, api.Errno) {
	if len(l) > api.MaxList {
		return "", api.ErrLarge
	}
	b := []byte{byte(len(l))}
	for _, v := range l {
		v = Clean(v)
		if len(v.S) > api.MaxString {
			return "", api.ErrLarge
		}
		b = appendPacked(b, v)
	}
	return string(b), api.OK
}

// appendPacked a clean value.
func appendPacked(b []byte, v api.Value) []byte {
	b = append(b, byte(v.Kind))
	switch v.Kind {
	case api.Bool:
		return append(b, byte(v.N))
	case api.Int:
		return appendEight(b, uint64(v.N))
	case api.Text:
		b = append(b, byte(len(v.S)>>8), byte(len(v.S)))
		return append(b, v.S...)
	}
	return b
}

// Unpack reads what Pack has written.
func Unpack(s string) ([]api.Value, api.Errno) {
	if s == "" || s[0] > api.MaxList {
		return nil, api.ErrDamage
	}
	many, rest := int(s[0]), s[1:]
	var l []api.Value
	for range many {
		v, behind, ok := readPacked(rest)
		if !ok {
			return nil, api.ErrDamage
		}
		l = append(l, v)
		rest = behind
	}
	if rest != "" {
		return nil, api.ErrDamage
	}
	return l, api.OK
}

// readPacked tells the first value, and what is behind it.
func readPacked(s string) (v api.Value, rest string, ok bool) {
	if s == "" {
		return api.Value{}, "", false
	}
	kind, rest := int(s[0]), s[1:]
	switch {
	case kind == api.Null:
		return api.Value{}, rest, true
	case kind == api.Bool && len(rest) >= 1 && rest[0] <= 1:
		return truth(rest[0] == 1), rest[1:], true
	case kind == api.Int && len(rest) >= 8:
		return number(int64(eight(rest))), rest[8:], true
	case kind == api.Text && len(rest) >= 2:
		return readPackedText(int(rest[0])<<8|int(rest[1]), rest[2:])
	}
	return api.Value{}, "", false
}

func readPackedText(size int, s string) (v api.Value, rest string, ok bool) {
	if size > api.MaxString || size > len(s) {
		return api.Value{}, "", false
	}
	return text(s[:size]), s[size:], true
}
