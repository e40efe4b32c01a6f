package page_test

import (
	"hash/crc32"
	"math"
	"strings"
	"testing"

	"relstore/api"
	"relstore/page"
)

// P10: Sum
func TestSum(t *testing.T) {
	for s, want := range map[string]uint32{
		"":          0,
		"a":         0xe8b7be43,
		"abc":       0x352441c2,
		"123456789": 0xcbf43926,
		"\x00":      0xd202ef8d,
		"\x00\x00":  0x41d912ff,
		"\xff":      0xff000000,
		"\xff\xff":  0xffff0000,
		"abcd":      0xed82cd11,
	} {
		if n := page.Sum(s); n != want {
			t.Errorf("Sum(%q): %x", s, n)
		}
	}
}

// P10: Sum, held against that of the library
func TestSumOfMany(t *testing.T) {
	for i := range 256 {
		for _, s := range []string{string([]byte{byte(i)}), string([]byte{byte(i), 1}), string([]byte{0, byte(i)}), strings.Repeat(string([]byte{byte(i), 'x'}), 600)} {
			if page.Sum(s) != crc32.ChecksumIEEE([]byte(s)) {
				t.Errorf("Sum(%q)", s)
			}
		}
	}
}

// P10: Used
func TestUsed(t *testing.T) {
	for _, x := range []struct {
		cells []string
		want  int
	}{
		{nil, 0}, {[]string{}, 0}, {[]string{""}, 4}, {[]string{"", ""}, 8}, {[]string{"a"}, 5}, {[]string{"abc", "", "de"}, 17},
		{[]string{long(5000)}, 5004}, {[]string{"é"}, 6}, {make([]string, 1000), 4000},
	} {
		if n := page.Used(x.cells); n != x.want {
			t.Errorf("Used(%q): %d", x.cells, n)
		}
	}
}

// P10: Seal, byte by byte
func TestSeal(t *testing.T) {
	s := sealed(t, api.Page{Kind: api.MetaPage, Link: 0x12345678, Cells: []string{"first", "", "xy"}})
	head := "\x04\x00" + "\x00\x03" + "\x12\x34\x56\x78" + "\x03\xf9" + "\x03\xf7" + "\x03\xf3"
	tail := "\x00\x02xy" + "\x00\x00" + "\x00\x05first"
	rest := head + strings.Repeat("\x00", 1020-len(head)-len(tail)) + tail
	n := crc32.ChecksumIEEE([]byte(rest))
	if want := string([]byte{byte(n >> 24), byte(n >> 16), byte(n >> 8), byte(n)}) + rest; s != want {
		t.Errorf("%q", s)
	}
}

// P10: Seal of pages without room to spare
func TestSealOfFullPages(t *testing.T) {
	one := sealed(t, api.Page{Kind: api.LeafPage, Cells: []string{long(1008)}})
	if one[4:16] != "\x01\x00\x00\x01\x00\x00\x00\x00\x00\x0e\x03\xf0" || one[16:] != long(1008) {
		t.Errorf("%q", one)
	}
	many := sealed(t, api.Page{Kind: api.MorePage, Link: math.MaxInt32, Cells: make([]string, 253)})
	if many[4:16] != "\x05\x00\x00\xfd\x7f\xff\xff\xff\x03\xfe\x03\xfc" || many[516:518] != "\x02\x06" || many[518:] != strings.Repeat("\x00", 506) {
		t.Errorf("%q", many)
	}
	none := sealed(t, api.Page{Kind: api.FreePage})
	if none[4:] != "\x03"+strings.Repeat("\x00", 1019) {
		t.Errorf("%q", none)
	}
}

// P10: Seal of what is no page
func TestSealRefuses(t *testing.T) {
	most := math.MaxInt32
	for _, x := range []struct {
		p    api.Page
		want api.Errno
	}{
		{api.Page{}, api.ErrArg},
		{api.Page{Kind: -1}, api.ErrArg},
		{api.Page{Kind: 6}, api.ErrArg},
		{api.Page{Kind: 257}, api.ErrArg},
		{api.Page{Kind: math.MinInt}, api.ErrArg},
		{api.Page{Kind: math.MaxInt}, api.ErrArg},
		{api.Page{Kind: 1, Link: -1}, api.ErrArg},
		{api.Page{Kind: 1, Link: most + 1}, api.ErrArg},
		{api.Page{Kind: 1, Link: math.MinInt}, api.ErrArg},
		{api.Page{Kind: 1, Link: math.MaxInt}, api.ErrArg},
		{api.Page{Kind: 0, Cells: []string{long(1009)}}, api.ErrArg},
		{api.Page{Kind: 1, Link: -1, Cells: []string{long(1009)}}, api.ErrArg},
		{api.Page{Kind: 1, Cells: []string{long(1009)}}, api.ErrRoom},
		{api.Page{Kind: 1, Cells: []string{"", long(1005)}}, api.ErrRoom},
		{api.Page{Kind: 1, Cells: make([]string, 254)}, api.ErrRoom},
		{api.Page{Kind: 1, Cells: make([]string, 65536)}, api.ErrRoom},
		{api.Page{Kind: 1, Cells: []string{long(65536)}}, api.ErrRoom},
		{api.Page{Kind: 1, Cells: []string{long(1 << 20)}}, api.ErrRoom},
	} {
		if s, e := page.Seal(x.p); s != "" || e != x.want {
			t.Errorf("kind %d, link %d, %d bytes: %d bytes, %v", x.p.Kind, x.p.Link, page.Used(x.p.Cells), len(s), e)
		}
	}
}

// P10: Open gives the page that was sealed.
func TestOpen(t *testing.T) {
	for i, p := range right() {
		s := sealed(t, p)
		if q, e := page.Open(s); e != api.OK || !same(p, q) {
			t.Errorf("page %d: %v, %v", i, q, e)
		}
	}
}

// P10: each change of one byte is found.
func TestOpenOfADamagedPage(t *testing.T) {
	for i, p := range right() {
		b := []byte(sealed(t, p))
		for at := range b {
			for _, bits := range []byte{1, 2, 16, 128, 255} {
				b[at] ^= bits
				if !refused(t, string(b)) {
					t.Errorf("page %d, byte %d: it is opened", i, at)
				}
				b[at] ^= bits
			}
		}
	}
}

// P10: bytes of another length
func TestOpenOfOtherLengths(t *testing.T) {
	s := sealed(t, api.Page{Kind: api.LeafPage, Cells: []string{"ab"}})
	for n := range len(s) {
		if !refused(t, s[:n]) {
			t.Errorf("%d bytes: it is opened", n)
		}
	}
	for _, more := range []string{s + "\x00", s + s, "\x00" + s, s[:12] + s, strings.Repeat("\x00", 1024), strings.Repeat("\xff", 1024)} {
		if !refused(t, more) {
			t.Errorf("%d bytes: it is opened", len(more))
		}
	}
}

// turned: the bytes of a page, but for some from a place on; with a right sum.
func turned(s string, at int, bytes string) string {
	b := []byte(s)
	copy(b[at:], bytes)
	return summed(b)
}

// P10: bytes under a right sum that no Seal gives
func TestOpenOfWhatNoSealGives(t *testing.T) {
	s := sealed(t, api.Page{Kind: api.LeafPage, Link: 3, Cells: []string{"ab", "c"}})
	empty := sealed(t, api.Page{Kind: api.LeafPage})
	if q, e := page.Open(summed([]byte(s))); e != api.OK || !same(q, api.Page{Kind: api.LeafPage, Link: 3, Cells: []string{"ab", "c"}}) {
		t.Fatal("a sum put anew")
	}
	for name, other := range map[string]string{
		"kind 0":                           turned(s, 4, "\x00"),
		"kind 6":                           turned(s, 4, "\x06"),
		"kind 255":                         turned(s, 4, "\xff"),
		"no zero at 5":                     turned(s, 5, "\x01"),
		"a cell too many":                  turned(s, 7, "\x03"),
		"a cell too few":                   turned(s, 7, "\x01"),
		"no cell":                          turned(s, 7, "\x00"),
		"512 cells more":                   turned(s, 6, "\x02"),
		"65535 cells":                      turned(s, 6, "\xff\xff"),
		"254 cells":                        turned(empty, 6, "\x00\xfe"),
		"253 cells at 0":                   turned(empty, 6, "\x00\xfd"),
		"a cell at 0":                      turned(empty, 6, "\x00\x01"),
		"a cell that begins in the head":   turned(empty, 6, "\x00\x01\x00\x00\x03\xf2\x00\x0a"),
		"a cell over where it stands":      turned(turned(empty, 6, "\x00\x01\x00\x00\x00\x00\x00\x0c"), 12, "\x00\x0c\x03\xf2"),
		"a link that is too great":         turned(s, 8, "\x80"),
		"the greatest four bytes":          turned(s, 8, "\xff\xff\xff\xff"),
		"something behind the places":      turned(s, 16, "\x01"),
		"something between":                turned(s, 500, "\x01"),
		"something ahead of the cells":     turned(s, 1016, "\x01"),
		"the first cell at 0":              turned(s, 12, "\x00\x00"),
		"the first cell one ahead":         turned(s, 12, "\x03\xfb"),
		"the first cell one behind":        turned(s, 12, "\x03\xfd"),
		"the first cell at the last byte":  turned(s, 12, "\x03\xff"),
		"the first cell at the end":        turned(s, 12, "\x04\x00"),
		"the first cell far out":           turned(s, 12, "\xff\xff"),
		"the second cell at 0":             turned(s, 14, "\x00\x00"),
		"the second cell where the first":  turned(s, 14, "\x03\xfc"),
		"the second cell one ahead":        turned(s, 14, "\x03\xf8"),
		"the second cell far out":          turned(s, 14, "\xff\xff"),
		"the first cell longer":            turned(s, 1021, "\x03"),
		"the first cell shorter":           turned(s, 1021, "\x01"),
		"the first cell much longer":       turned(s, 1020, "\xff"),
		"the second cell longer":           turned(s, 1018, "\x02"),
		"the second cell empty":            turned(s, 1018, "\x00"),
		"an empty cell that is not at end": turned(empty, 6, "\x00\x01\x00\x00\x00\x00\x03\xfd"),
	} {
		if !refused(t, other) {
			t.Errorf("%s: it is opened", name)
		}
	}
}

// P10: cells the other way about, or with room between, are right in themselves, but Seal does not lay them so.
func TestOpenOfCellsLaidOtherwise(t *testing.T) {
	s := sealed(t, api.Page{Kind: api.LeafPage, Cells: []string{"ab", "cd"}})
	// The places of the two cells changed about.
	if !refused(t, turned(s, 12, s[14:16]+s[12:14])) {
		t.Error("places changed about: it is opened")
	}
	// One byte of room between them.
	between := turned(turned(s, 1015, "\x00\x02cd\x00"), 14, "\x03\xf7")
	if !refused(t, between) {
		t.Error("room between: it is opened")
	}
	// Two names for one cell.
	if !refused(t, turned(s, 14, s[12:14])) {
		t.Error("one place twice: it is opened")
	}
}

// P10: what Open takes is what Seal gives.
func FuzzOpen(f *testing.F) {
	for _, p := range right() {
		s, _ := page.Seal(p)
		f.Add(s)
	}
	f.Fuzz(func(t *testing.T, s string) {
		if len(s) == api.PageSize {
			s = summed([]byte(s))
		}
		p, e := page.Open(s)
		again, f := page.Seal(p)
		switch {
		case e == api.OK && (f != api.OK || again != s):
			t.Error("Seal gives something else")
		case e != api.OK && (e != api.ErrDamage || !same(p, api.Page{})):
			t.Errorf("%v, %v", p, e)
		}
	})
}
