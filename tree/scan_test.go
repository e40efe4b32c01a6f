package tree_test

import (
	"math"
	"testing"

	"relstore/api"
)

// mosts: how many entries may be asked for.
func mosts() []int { return []int{math.MinInt, -5, -1, 0, 1, 2, 3, 17, 1000, math.MaxInt} }

// P13: ranges over few keys: from and to empty, equal, crossed, longer than a key, between keys
func TestScanOfALeaf(t *testing.T) {
	b := alone(t)
	bounds := []string{"", "\x00", "\x00\x00", "a", "a\x00", "aa", "ab", "b", "b\xff", "c", "cc", "\xfe\xff", "\xff", "\xff\x00", run("\xff", 200), run("\xff", 201), run("a", 300), run("\xff", 100000)}
	for _, keys := range [][]string{{}, {"a"}, {"\x00", "b", "\xff"}, {"aa", "ab", "c"}, {run("\xff", 200)}} {
		for _, k := range keys {
			b.put(t, k, "value of "+k[:1])
		}
		for _, from := range bounds {
			for _, to := range bounds {
				for _, most := range mosts() {
					b.scan(t, from, to, most)
				}
			}
		}
	}
}

// P13: ranges over a deep tree with long values, from each key to each other
func TestScanOfADeepTree(t *testing.T) {
	b := alone(t)
	for i := range 60 {
		b.put(t, numbered(i*37%60, 150+i%50), run("v", i*97%500))
	}
	if s := shaped(t, b)[0]; s.deep < 3 || len(s.leaves) < 8 {
		t.Fatalf("%d deep, %d leaves", s.deep, len(s.leaves))
	}
	bounds := []string{"", "0", "2", run("\xff", 300)}
	for i, k := range b.keys() {
		if i%4 == 0 {
			bounds = append(bounds, k, k[:len(k)-1], k+"\x00", k[:6])
		}
	}
	for i, from := range bounds {
		for j, to := range bounds {
			b.scan(t, from, to, mosts()[(i+3*j)%len(mosts())])
		}
	}
	for _, most := range mosts() {
		b.scan(t, "", "", most)
		b.scan(t, b.keys()[20], "", most)
		b.scan(t, "", b.keys()[40], most)
		b.scan(t, b.keys()[20], b.keys()[40], most)
	}
	for most := range 63 {
		b.scan(t, "", "", most)
	}
}

// P13: a range that begins or ends with a key that stands between two nodes, or between two of their children, there still or not
func TestScanAtTheEndsOfLeaves(t *testing.T) {
	b := alone(t)
	for i := range 200 {
		b.put(t, numbered(i, 100), run("v", 100))
	}
	keys := b.keys()
	for i := 0; i < 200; i += 3 {
		b.delete(t, keys[i])
	}
	shaped(t, b)
	for i, k := range keys {
		b.scan(t, k, "", 2)
		b.scan(t, "", k, 2)
		b.scan(t, k, k, -1)
		b.scan(t, k, keys[(i+1)%len(keys)], -1)
		b.scan(t, k, k+"\x00", -1)
	}
}

// P13: no more pages are looked at than the entries need: those that are not asked for may be none of a tree's.
func TestScanStops(t *testing.T) {
	b := alone(t)
	for i := range 40 {
		b.put(t, numbered(i, 100), run("v", 100))
	}
	leaves := shaped(t, b)[0].leaves
	is(t, b.p.Write(leaves[len(leaves)-1], run("x", 1024)), api.OK)
	b.scanForward(t, "", "", 10)
	b.scanForward(t, "", numbered(20, 100), -1)
	if l, e := b.x.Scan("", "", -1); l != nil || e != api.ErrDamage {
		t.Errorf("%s, %v", told(l), e)
	}
	if l, e := b.x.Back("", "", 1); l != nil || e != api.ErrDamage {
		t.Errorf("%s, %v", told(l), e)
	}
	if l, e := b.x.Back("", numbered(20, 100), 5); len(l) != 5 || e != api.OK {
		t.Errorf("%s, %v", told(l), e)
	}
}

// scanForward alone.
func (b *book) scanForward(t *testing.T, from, to string, most int) {
	t.Helper()
	want := first(b.between(from, to), most)
	if l, e := b.x.Scan(from, to, most); e != api.OK || told(l) != told(want) {
		t.Fatalf("%s, %v; want %s", told(l), e, told(want))
	}
}
