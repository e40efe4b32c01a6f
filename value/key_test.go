package value_test

import (
	"slices"
	"strings"
	"testing"

	"relstore/api"
	"relstore/value"
)

// P7
func TestKeyBytes(t *testing.T) {
	for i, x := range []struct {
		l    []api.Value
		want string
	}{
		{nil, ""},
		{[]api.Value{null}, "\x01"},
		{[]api.Value{{Kind: 9, N: 1, S: "x"}, {Kind: api.Bool, S: "x"}, {Kind: api.Bool, N: 256}}, "\x01\x02\x03"},
		{[]api.Value{n(0)}, "\x04\x80\x00\x00\x00\x00\x00\x00\x00"},
		{[]api.Value{n(least)}, "\x04\x00\x00\x00\x00\x00\x00\x00\x00"},
		{[]api.Value{n(most)}, "\x04\xff\xff\xff\xff\xff\xff\xff\xff"},
		{[]api.Value{{Kind: api.Int, N: 0x0102030405060708, S: "x"}}, "\x04\x81\x02\x03\x04\x05\x06\x07\x08"},
		{[]api.Value{s("")}, "\x05\x00\x01"},
		{[]api.Value{{Kind: api.Text, N: 7, S: "\x00"}}, "\x05\x00\xff\x00\x01"},
		{[]api.Value{s("a\x00\x00\xffb\x01")}, "\x05a\x00\xff\x00\xff\xffb\x01\x00\x01"},
		{[]api.Value{s("a"), null, n(-1), b(true)}, "\x05a\x00\x01\x01\x04\x7f\xff\xff\xff\xff\xff\xff\xff\x03"},
	} {
		if got := value.Key(x.l); got != x.want {
			t.Errorf("row %d: %q, not %q", i, got, x.want)
		}
	}
}

// P7
func TestKeysHaveNoLimit(t *testing.T) {
	l := slices.Repeat([]api.Value{s(strings.Repeat("x\x00", 1000)), null, n(5)}, 100)
	if got, e := value.Unkey(value.Key(l)); e != api.OK || !slices.Equal(got, l) {
		t.Error("a long list of long texts", e)
	}
}

// P7
func TestKeysStandAsListsDo(t *testing.T) {
	l := lists([]api.Value{null, b(false), b(true), n(-1), n(0), s(""), s("\x00"), s("\x00\xff"), s("\x01"), s("a"), s("a\x00"), s("a\x01"), s("\xff")}, 2)
	for _, v := range all() {
		l = append(l, []api.Value{v}, []api.Value{s("a"), v}, []api.Value{v, n(0)})
	}
	for _, x := range l {
		for _, y := range l {
			if got, want := strings.Compare(value.Key(x), value.Key(y)), value.Rows(x, y); got != want {
				t.Fatalf("%v and %v: %d, not %d", x, y, got, want)
			}
		}
	}
}

// P7
func TestUnkeyOfKeys(t *testing.T) {
	for _, v := range rising() {
		for _, w := range rising() {
			l := []api.Value{v, w, v}
			if got, e := value.Unkey(value.Key(l)); e != api.OK || !slices.Equal(got, l) {
				t.Errorf("%v: %v %v", l, got, e)
			}
		}
	}
}

// P7
func TestUnkeyOfSoiledValues(t *testing.T) {
	for _, v := range rising() {
		for _, x := range soiled(v) {
			if got, e := value.Unkey(value.Key([]api.Value{x})); e != api.OK || !slices.Equal(got, []api.Value{v}) {
				t.Errorf("%v: %v %v", x, got, e)
			}
		}
	}
}

// checkUnkey: bytes are refused, or are just those that Key gives of the answer.
func checkUnkey(t *testing.T, x string) {
	l, e := value.Unkey(x)
	switch {
	case e == api.OK && value.Key(l) != x:
		t.Fatalf("Unkey(%q): %v, of which Key gives %q", x, l, value.Key(l))
	case e != api.OK && (e != api.ErrDamage || l != nil):
		t.Fatalf("Unkey(%q): %v %v", x, l, e)
	}
	for _, v := range l {
		if !isClean(v) {
			t.Fatalf("Unkey(%q): %v is not clean", x, v)
		}
	}
}

// P7
func TestUnkeyOfAnyBytes(t *testing.T) {
	for _, x := range texts("\x00\x01\x02\x05\x06a\xff", 6) {
		checkUnkey(t, x)
	}
	key := value.Key([]api.Value{n(77), s("a\x00b"), b(true), n(least), s("")})
	for i := range len(key) {
		checkUnkey(t, key[:i])
		checkUnkey(t, key[i:])
		for c := range 256 {
			checkUnkey(t, key[:i]+string([]byte{byte(c)})+key[i:])
			checkUnkey(t, key[:i]+string([]byte{byte(c)})+key[i+1:])
		}
	}
}

// P7
func TestUnkeyDamage(t *testing.T) {
	var l []string
	for c := range 256 {
		if c < 1 || c > 5 {
			l = append(l, string([]byte{byte(c)}), "\x01"+string([]byte{byte(c)}))
		}
		if c != 1 && c != 255 {
			l = append(l, "\x05a\x00"+string([]byte{byte(c)}), "\x05a\x00"+string([]byte{byte(c)})+"\x00\x01")
		}
	}
	l = append(l, "\x04", "\x04\x80\x00\x00\x00\x00\x00\x00", "\x05", "\x05a", "\x05a\x00", "\x05a\x00\xff", "\x05a\x00\xff\x00", "\x05\x00\x01\x00", "\x01\x02\x03\x04")
	for _, x := range l {
		if got, e := value.Unkey(x); e != api.ErrDamage || got != nil {
			t.Errorf("Unkey(%q): %v %v", x, got, e)
		}
	}
	if got, e := value.Unkey(""); e != api.OK || len(got) != 0 {
		t.Errorf("of no bytes: %v %v", got, e)
	}
}

func FuzzUnkey(f *testing.F) {
	f.Add("\x05a\x00\xff\x00\x01\x04\x80\x00\x00\x00\x00\x00\x00\x00\x01\x02\x03")
	f.Fuzz(func(t *testing.T, x string) { checkUnkey(t, x) })
}
