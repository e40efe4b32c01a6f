package page_test

import (
	"math"
	"slices"
	"strings"
	"testing"

	"relstore/api"
	"relstore/page"
)

// P1
func TestEachCallAnswers(t *testing.T) {
	lists := [][]string{nil, {}, {""}, {long(1 << 20)}, make([]string, 1<<17), {"\xff", "\x00"}}
	for _, cells := range lists {
		page.Used(cells)
		for _, kind := range []int{math.MinInt, -1, 0, 1, 5, 6, 256, math.MaxInt} {
			for _, link := range []int{math.MinInt, -1, 0, 1, math.MaxInt32, math.MaxInt} {
				p := api.Page{Kind: kind, Link: link, Cells: cells}
				if s, e := page.Seal(p); (e == api.OK) != (len(s) == api.PageSize) || e != api.OK && s != "" {
					t.Errorf("kind %d, link %d: %d bytes, %v", kind, link, len(s), e)
				}
			}
		}
	}
	page.Sum(long(1 << 20))
	for _, s := range []string{"", "x", long(1024), long(1 << 20), strings.Repeat("\xff", 1024), summed(make([]byte, 1024)), summed([]byte(strings.Repeat("\xff", 1024)))} {
		if !refused(t, s) {
			t.Errorf("%d bytes: they are opened", len(s))
		}
	}
}

// P1: each two bytes that say where something stands, or how much, under a right sum
func TestOpenOfAnyPlaces(t *testing.T) {
	s := sealed(t, api.Page{Kind: api.LeafPage, Cells: []string{"ab", "c"}})
	for _, at := range []int{6, 12, 14, 1017, 1020} {
		for n := 0; n < 1<<16; n += 37 {
			other := turned(s, at, string([]byte{byte(n >> 8), byte(n)}))
			if other != s && !refused(t, other) {
				t.Errorf("%d at %d: it is opened", n, at)
			}
		}
	}
}

// P2: the cells handed in, room behind them included, are the caller's.
func TestCellsHandedInAreNotChangedAndNotKept(t *testing.T) {
	all := []string{"one", "", "three", "behind"}
	was := slices.Clone(all)
	p := api.Page{Kind: api.LeafPage, Link: 9, Cells: all[:3]}
	page.Used(p.Cells)
	s := sealed(t, p)
	if !slices.Equal(all, was) || !same(p, api.Page{Kind: api.LeafPage, Link: 9, Cells: was[:3]}) {
		t.Errorf("the cells were changed: %q", all)
	}
	all[0], all[2] = "ONE", ""
	if q, e := page.Open(s); e != api.OK || !slices.Equal(q.Cells, was[:3]) {
		t.Errorf("%v, %v", q, e)
	}
}

// P2: cells that come out are the caller's, room behind them included.
func TestCellsThatComeOutAreNewMemory(t *testing.T) {
	for _, p := range right() {
		s := sealed(t, p)
		first, _ := page.Open(s)
		second, _ := page.Open(s)
		spoiled := first.Cells[:cap(first.Cells)]
		for i := range spoiled {
			spoiled[i] = "spoiled"
		}
		third, _ := page.Open(s)
		if !same(second, p) || !same(third, p) {
			t.Errorf("%v, %v", second, third)
		}
	}
}
