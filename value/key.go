package value

import "relstore/api"

// The bytes with which the values of a key begin.
const (
	keyNull = iota + 1
	keyFalse
	keyTrue
	keyNumber
	keyText
)

// What stands behind a byte 0 in the text of a key: the text ends, or it has
// a byte 0 there. The end is the smaller one, so that a text that goes on
// stands behind one that does not.
const (
	textEnds = 1
	textZero = 255
)

// highest bit of a number: turned about, so that numbers below 0 stand first.
const highest = 1 << 63

// Key writes values so that the order of the bytes is theirs.
func Key(l []api.Value) string {
	var b []byte
	for _, v := range l {
		b = appendKey(b, v)
	}
	return string(b)
}

func appendKey(b []byte, v api.Value) []byte {
	switch v.Kind {
	case api.Bool:
		if isTrue(v) {
			return append(b, keyTrue)
		}
		return append(b, keyFalse)
	case api.Int:
		return appendEight(append(b, keyNumber), uint64(v.N)^highest)
	case api.Text:
		return appendKeyText(append(b, keyText), v.S)
	}
	return append(b, keyNull)
}

func appendKeyText(b []byte, s string) []byte {
	for i := range len(s) {
		b = append(b, s[i])
		if s[i] == 0 {
			b = append(b, textZero)
		}
	}
	return append(b, 0, textEnds)
}

// Unkey reads what Key has written.
func Unkey(s string) ([]api.Value, api.Errno) {
	var l []api.Value
	for s != "" {
		v, rest, ok := readKey(s)
		if !ok {
			return nil, api.ErrDamage
		}
		l = append(l, v)
		s = rest
	}
	return l, api.OK
}

// readKey tells the first value, and what is behind it.
func readKey(s string) (v api.Value, rest string, ok bool) {
	first, rest := s[0], s[1:]
	switch first {
	case keyNull:
		return api.Value{}, rest, true
	case keyFalse, keyTrue:
		return truth(first == keyTrue), rest, true
	case keyNumber:
		if len(rest) < 8 {
			return api.Value{}, "", false
		}
		return number(int64(eight(rest) ^ highest)), rest[8:], true
	case keyText:
		return readKeyText(rest)
	}
	return api.Value{}, "", false
}

func readKeyText(s string) (v api.Value, rest string, ok bool) {
	var b []byte
	for i := 0; i < len(s); i++ {
		if s[i] != 0 {
			b = append(b, s[i])
			continue
		}
		i++
		switch {
		case i < len(s) && s[i] == textZero:
			b = append(b, 0)
		case i < len(s) && s[i] == textEnds:
			return text(string(b)), s[i+1:], true
		default:
			return api.Value{}, "", false
		}
	}
	return api.Value{}, "", false
}

// appendEight bytes of a number, the highest first.
func appendEight(b []byte, n uint64) []byte {
	for shift := 56; shift >= 0; shift -= 8 {
		b = append(b, byte(n>>shift))
	}
	return b
}

// eight bytes as a number; s has them.
func eight(s string) uint64 {
	n := uint64(0)
	for i := range 8 {
		n = n<<8 | uint64(s[i])
	}
	return n
}
