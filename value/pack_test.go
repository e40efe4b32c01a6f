package value_test

import (
	"slices"
	"strings"
	"testing"

	"relstore/api"
	"relstore/value"
)

// P8
func TestPackBytes(t *testing.T) {
	long := strings.Repeat("x", 1000)
	for i, x := range []struct {
		l    []api.Value
		want string
	}{
		{nil, "\x00"},
		{[]api.Value{}, "\x00"},
		{[]api.Value{null}, "\x01\x00"},
		{[]api.Value{b(false), b(true)}, "\x02\x01\x00\x01\x01"},
		{[]api.Value{{Kind: api.Bool, S: "x"}, {Kind: api.Bool, N: 256, S: "x"}}, "\x02\x01\x00\x01\x01"},
		{[]api.Value{n(0), n(-1), n(least)}, "\x03\x02\x00\x00\x00\x00\x00\x00\x00\x00\x02\xff\xff\xff\xff\xff\xff\xff\xff\x02\x80\x00\x00\x00\x00\x00\x00\x00"},
		{[]api.Value{{Kind: api.Int, N: 0x0102030405060708, S: long + "x"}}, "\x01\x02\x01\x02\x03\x04\x05\x06\x07\x08"},
		{[]api.Value{s(""), {Kind: api.Text, N: 5, S: "a\x00"}}, "\x02\x03\x00\x00\x03\x00\x02a\x00"},
		{[]api.Value{s(long)}, "\x01\x03\x03\xe8" + long},
		{[]api.Value{s(long[:256])}, "\x01\x03\x01\x00" + long[:256]},
		{[]api.Value{{Kind: 4, N: 1, S: "x"}, {Kind: -1}, {Kind: 259, S: long + "x"}, {S: long + "x"}}, "\x04\x00\x00\x00\x00"},
		{make([]api.Value, 64), "\x40" + strings.Repeat("\x00", 64)},
	} {
		if got, e := value.Pack(x.l); got != x.want || e != api.OK {
			t.Errorf("row %d: %q %v, not %q", i, got, e, x.want)
		}
	}
}

// P8
func TestPackLarge(t *testing.T) {
	long := strings.Repeat("x", 1001)
	for i, l := range [][]api.Value{
		make([]api.Value, 65),
		make([]api.Value, 256),
		make([]api.Value, 320),
		{s(long)},
		{n(1), null, {Kind: api.Text, N: 1, S: long}},
		{s(long), n(1)},
		{s(strings.Repeat("x", 65536))},
		slices.Repeat([]api.Value{s(long)}, 65),
	} {
		if got, e := value.Pack(l); got != "" || e != api.ErrLarge {
			t.Errorf("row %d: %q %v", i, got, e)
		}
	}
}

// P8
func TestUnpackOfPacks(t *testing.T) {
	full := slices.Repeat([]api.Value{s(strings.Repeat("\xff", 1000))}, 64)
	l := append(lists([]api.Value{null, b(false), b(true), n(least), n(258), s(""), s("\x00ab")}, 3), full, make([]api.Value, 64))
	for _, x := range l {
		packed, e := value.Pack(x)
		if e != api.OK {
			t.Fatalf("Pack(%v): %v", x, e)
		}
		if got, e := value.Unpack(packed); e != api.OK || !slices.Equal(got, x) {
			t.Fatalf("%v: %v %v", x, got, e)
		}
	}
}

// P8
func TestUnpackOfSoiledValues(t *testing.T) {
	for _, v := range rising() {
		for _, x := range soiled(v) {
			packed, e := value.Pack([]api.Value{x})
			if len(v.S) > 1000 {
				if packed != "" || e != api.ErrLarge {
					t.Errorf("%d bytes: %q %v", len(v.S), packed, e)
				}
				continue
			}
			if got, f := value.Unpack(packed); e != api.OK || f != api.OK || !slices.Equal(got, []api.Value{v}) {
				t.Errorf("%v: %v; %v %v", x, e, got, f)
			}
		}
	}
}

// checkUnpack: bytes are refused, or are just those that Pack gives of the answer.
func checkUnpack(t *testing.T, x string) {
	l, e := value.Unpack(x)
	if e != api.OK && (e != api.ErrDamage || l != nil) {
		t.Fatalf("Unpack(%q): %v %v", x, l, e)
	}
	if e != api.OK {
		return
	}
	if packed, f := value.Pack(l); packed != x || f != api.OK {
		t.Fatalf("Unpack(%q): %v, of which Pack gives %q %v", x, l, packed, f)
	}
	for _, v := range l {
		if !isClean(v) {
			t.Fatalf("Unpack(%q): %v is not clean", x, v)
		}
	}
}

// P8
func TestUnpackOfAnyBytes(t *testing.T) {
	for _, x := range texts("\x00\x01\x02\x03\x04\xff", 6) {
		checkUnpack(t, x)
	}
	packed, _ := value.Pack([]api.Value{n(77), s("a\x00b"), b(true), null, n(least), s("")})
	for i := range len(packed) {
		checkUnpack(t, packed[:i])
		checkUnpack(t, packed[i:])
		for c := range 256 {
			checkUnpack(t, packed[:i]+string([]byte{byte(c)})+packed[i:])
			checkUnpack(t, packed[:i]+string([]byte{byte(c)})+packed[i+1:])
		}
	}
}

// P8
func TestUnpackDamage(t *testing.T) {
	l := []string{
		"", "\x00\x00", "\x01", "\x01\x00\x00", "\x02\x00", "\x01\x01", "\x01\x01\x02", "\x01\x01\xff", "\x01\x01\x01\x00",
		"\x01\x02", "\x01\x02\x00\x00\x00\x00\x00\x00\x00", "\x01\x02\x00\x00\x00\x00\x00\x00\x00\x00\x00",
		"\x01\x03", "\x01\x03\x00", "\x01\x03\x00\x01", "\x01\x03\x00\x01ab", "\x01\x03\x01\x00" + strings.Repeat("x", 255),
		"\x01\x03\x03\xe9" + strings.Repeat("x", 1001), "\x01\x03\xff\xff" + strings.Repeat("x", 65535),
		"\x41" + strings.Repeat("\x00", 65), "\xff" + strings.Repeat("\x00", 255),
	}
	for c := 4; c < 256; c++ {
		l = append(l, "\x01"+string([]byte{byte(c)}), "\x01"+string([]byte{byte(c)})+"\x00", "\x02\x00"+string([]byte{byte(c)})+"\x00\x00")
	}
	for _, x := range l {
		if got, e := value.Unpack(x); e != api.ErrDamage || got != nil {
			t.Errorf("Unpack(%.20q): %v %v", x, got, e)
		}
	}
}

func FuzzUnpack(f *testing.F) {
	f.Add("\x04\x00\x01\x01\x02\xff\xff\xff\xff\xff\xff\xff\xfe\x03\x00\x02hi")
	f.Fuzz(func(t *testing.T, x string) { checkUnpack(t, x) })
}
