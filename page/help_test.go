package page_test

import (
	"slices"
	"strings"
	"testing"

	"relstore/api"
	"relstore/page"
)

// same pages?
func same(p, q api.Page) bool {
	return p.Kind == q.Kind && p.Link == q.Link && slices.Equal(p.Cells, q.Cells)
}

// sealed: the bytes of a page that may be.
func sealed(t *testing.T, p api.Page) string {
	t.Helper()
	s, e := page.Seal(p)
	if e != api.OK || len(s) != api.PageSize {
		t.Fatalf("Seal: %d bytes, %v", len(s), e)
	}
	return s
}

// refused: is there no page of which Seal gives these bytes?
func refused(t *testing.T, s string) bool {
	t.Helper()
	p, e := page.Open(s)
	return e == api.ErrDamage && same(p, api.Page{})
}

// summed: these bytes under a right sum.
func summed(b []byte) string {
	n := page.Sum(string(b[4:]))
	return string([]byte{byte(n >> 24), byte(n >> 16), byte(n >> 8), byte(n)}) + string(b[4:])
}

// long text of so many bytes.
func long(n int) string { return strings.Repeat("x", n) }

// right pages: ordinary ones, and those at the edges.
func right() []api.Page {
	l := []api.Page{
		{Kind: api.LeafPage},
		{Kind: api.MorePage, Link: 1<<31 - 1},
		{Kind: api.InnerPage, Link: 0x01020304, Cells: []string{"one", "two", "three"}},
		{Kind: api.FreePage, Link: 7, Cells: []string{""}},
		{Kind: api.MetaPage, Link: 1 << 30, Cells: []string{"", "", "\x00", "\x00\x00", "\xff"}},
		{Kind: api.LeafPage, Cells: []string{long(1008)}},
		{Kind: api.LeafPage, Cells: []string{long(1003), "x"}},
		{Kind: api.LeafPage, Cells: []string{"", long(1004)}},
		{Kind: api.LeafPage, Cells: []string{long(255), long(256), long(257)}},
		{Kind: api.LeafPage, Cells: make([]string, 253)},
		{Kind: api.LeafPage, Cells: slices.Repeat([]string{"x"}, 202)},
	}
	for kind := api.LeafPage; kind <= api.MorePage; kind++ {
		l = append(l, api.Page{Kind: kind, Link: kind, Cells: []string{"a", "", "b"}})
	}
	return l
}
