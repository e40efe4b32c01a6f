package pool_test

import (
	"math"
	"testing"

	"relstore/api"
	"relstore/disk"
)

// P12: Alloc without a free page: one more is made.
func TestAlloc(t *testing.T) {
	d := disk.New()
	p := opened(t, d, 8)
	log := fileOf(t, d, 1)
	gives(t, p, 1)
	shows(t, p, 2, 1, counted(0, 0, 0), 1)
	gives(t, p, 2)
	shows(t, p, 3, 1, counted(0, 0, 0), 1, 2)
	has(t, d, "", log)
	reads(t, p, 1, "\xe4\x1b\xa9\xe3\x03"+zeros(1019))
	shows(t, p, 3, 1, counted(1, 0, 0), 2, 1)
	lacks(t, p, 3, api.ErrMissing)
	// It is dirty.
	is(t, p.Commit(), api.OK)
	has(t, d, "", mark+slot(3, 3, 3)+slot(2, 1, 1)+log[64:]+frame(1, free(0))+frame(2, free(0)))
	p = opened(t, d, 8)
	shows(t, p, 3, 3, counted(0, 0, 0))
	reads(t, p, 2, free(0))
	gives(t, p, 3)
}

// P12: Alloc makes room, and what it made goes as any page that is dirty.
func TestAllocMakesRoom(t *testing.T) {
	d := disk.New()
	p := opened(t, d, 8)
	for n := 1; n <= 8; n++ {
		gives(t, p, n)
	}
	shows(t, p, 9, 1, counted(0, 0, 0), 1, 2, 3, 4, 5, 6, 7, 8)
	gives(t, p, 9)
	shows(t, p, 10, 2, counted(0, 0, 1), 2, 3, 4, 5, 6, 7, 8, 9)
	reads(t, p, 1, free(0))
	shows(t, p, 10, 3, counted(0, 1, 2), 3, 4, 5, 6, 7, 8, 9, 1)
	pins(t, p, 3, 4, 5, 6, 7, 8, 9, 1)
	denies(t, p, api.ErrBusy)
	shows(t, p, 10, 3, counted(8, 1, 2), 3, 4, 5, 6, 7, 8, 9, 1)
	lacks(t, p, 10, api.ErrMissing)
	is(t, p.Unpin(1), api.OK)
	gives(t, p, 10)
	shows(t, p, 11, 3, counted(8, 1, 2), 3, 4, 5, 6, 7, 8, 9, 10)
}

// P12: Alloc of more pages than a file may have
func TestAllocOfTooMany(t *testing.T) {
	for _, n := range []int{65534, 65535, 65536, 65537, 1<<32 - 1} {
		d := laid(t, placed(12), mark+slot(1, 0, n))
		p := opened(t, d, 8)
		for made := n; made < 65536; made++ {
			gives(t, p, made)
		}
		was := max(n, 65536)
		denies(t, p, api.ErrLarge)
		if p.Pages() != was {
			t.Fatalf("%d pages", p.Pages())
		}
		pins(t, p, 1, 2, 3, 4, 5, 6, 7, 8)
		denies(t, p, api.ErrLarge)
		for _, n := range []int{1, 2, 3, 4, 5, 6, 7, 8} {
			is(t, p.Unpin(n), api.OK)
		}
		// A page that was freed may be given though no more may be made.
		is(t, p.Free(5), api.OK)
		gives(t, p, 5)
		denies(t, p, api.ErrLarge)
	}
	// The greatest pool can be committed, and brought to its places.
	d := laid(t, placed(12)+zeros((65535-12)*1024), "")
	p := opened(t, d, 8)
	gives(t, p, 65535)
	is(t, p.Write(65535, sheet("last")), api.OK)
	denies(t, p, api.ErrLarge)
	is(t, p.Commit(), api.OK)
	is(t, p.Checkpoint(), api.OK)
	p = opened(t, d, 8)
	denies(t, p, api.ErrLarge)
	reads(t, p, 65535, sheet("last"))
}

// P12: Free: the page becomes the first free one.
func TestFree(t *testing.T) {
	p, d := over(t, 12)
	is(t, p.Free(3), api.OK)
	shows(t, p, 12, 0, counted(1, 2, 0), 3, 0)
	is(t, p.Free(7), api.OK)
	shows(t, p, 12, 0, counted(3, 3, 0), 3, 7, 0)
	is(t, p.Write(5, sheet("x")), api.OK)
	is(t, p.Free(5), api.OK)
	shows(t, p, 12, 0, counted(6, 4, 0), 3, 7, 5, 0)
	has(t, d, placed(12), mark+slot(1, 0, 12))
	is(t, p.Commit(), api.OK)
	shows(t, p, 12, 4, counted(6, 4, 0), 3, 7, 5, 0)
	has(t, d, placed(12), mark+slot(1, 0, 12)+slot(2, 4, 12)+frame(0, first(5))+frame(3, free(0))+frame(5, free(7))+frame(7, free(3)))
	for _, n := range []int{math.MinInt, -1, 12, 13, math.MaxInt} {
		is(t, p.Free(n), api.ErrMissing)
	}
	is(t, p.Free(0), api.ErrArg)
	shows(t, p, 12, 4, counted(6, 4, 0), 3, 7, 5, 0)
}

// P12: Alloc of free pages: the one that was freed last comes first; then others are made.
func TestAllocOfFreePages(t *testing.T) {
	p, d := over(t, 12)
	for _, n := range []int{3, 7, 5} {
		is(t, p.Free(n), api.OK)
	}
	is(t, p.Commit(), api.OK)
	log := fileOf(t, d, 1)[64:]
	p = opened(t, d, 8)
	gives(t, p, 5)
	shows(t, p, 12, 4, counted(2, 2, 0), 0, 5)
	reads(t, p, 0, first(7))
	reads(t, p, 5, free(0))
	shows(t, p, 12, 4, counted(4, 2, 0), 0, 5)
	is(t, p.Commit(), api.OK)
	log += frame(0, first(7)) + frame(5, free(0))
	has(t, d, placed(12), mark+slot(3, 6, 12)+slot(2, 4, 12)+log)
	gives(t, p, 7)
	shows(t, p, 12, 6, counted(4+3, 3, 0), 5, 0, 7)
	gives(t, p, 3)
	shows(t, p, 12, 6, counted(4+6, 4, 0), 5, 7, 0, 3)
	reads(t, p, 0, first(0))
	gives(t, p, 12)
	shows(t, p, 13, 6, counted(4+7, 4, 0), 5, 7, 3, 0, 12)
	is(t, p.Commit(), api.OK)
	has(t, d, placed(12), mark+slot(3, 6, 12)+slot(1, 10, 13)+log+frame(0, first(0))+frame(3, free(0))+frame(7, free(0))+frame(12, free(0)))
}

// P12: Free, then Alloc, without a commit between
func TestFreeThenAlloc(t *testing.T) {
	p, _ := over(t, 12)
	is(t, p.Free(3), api.OK)
	is(t, p.Free(4), api.OK)
	gives(t, p, 4)
	is(t, p.Free(11), api.OK)
	gives(t, p, 11)
	gives(t, p, 3)
	gives(t, p, 12)
	is(t, p.Free(12), api.OK)
	gives(t, p, 12)
	gives(t, p, 13)
}

// P12: many pages, freed and given again in the other order, with few of them held
func TestFreeOfMany(t *testing.T) {
	d := laid(t, placed(200), mark+slot(1, 0, 200))
	p := opened(t, d, 8)
	for n := 1; n < 200; n++ {
		is(t, p.Free(n), api.OK)
	}
	is(t, p.Commit(), api.OK)
	p = opened(t, d, 9)
	for n := 199; n > 100; n-- {
		gives(t, p, n)
	}
	is(t, p.Rollback(), api.OK)
	for n := 199; n > 0; n-- {
		gives(t, p, n)
		is(t, p.Write(n, sheet("x")), api.OK)
	}
	gives(t, p, 200)
	is(t, p.Commit(), api.OK)
	p = opened(t, d, 8)
	reads(t, p, 0, first(0))
	for n := 1; n < 200; n++ {
		reads(t, p, n, sheet("x"))
	}
	reads(t, p, 200, free(0))
}

// P12: in page 0 all but the link stays; a page that is freed loses all.
func TestOnlyTheLinkOfPage0Turns(t *testing.T) {
	pages := sealed(4, 0, "cell", "", "other") + sealed(1, 9, "one") + sealed(3, 0, "two")
	d := laid(t, pages, "")
	p := opened(t, d, 8)
	is(t, p.Free(1), api.OK)
	reads(t, p, 0, sealed(4, 1, "cell", "", "other"))
	reads(t, p, 1, free(0))
	is(t, p.Free(2), api.OK)
	reads(t, p, 0, sealed(4, 2, "cell", "", "other"))
	reads(t, p, 2, free(1))
	gives(t, p, 2)
	reads(t, p, 0, sealed(4, 1, "cell", "", "other"))
	gives(t, p, 1)
	reads(t, p, 0, sealed(4, 0, "cell", "", "other"))
}

// P12: a free page with cells has none when it is given.
func TestAllocOfAFreePageWithCells(t *testing.T) {
	d := laid(t, first(1)+sealed(3, 2, "cell")+free(0), "")
	p := opened(t, d, 8)
	gives(t, p, 1)
	reads(t, p, 1, free(0))
	reads(t, p, 0, first(2))
	gives(t, p, 2)
	gives(t, p, 3)
}

// P12: what is no page has no link; what is beyond all pages cannot be used.
func TestAllocOfWhatIsNoFreePage(t *testing.T) {
	p, _ := over(t, 12)
	is(t, p.Free(3), api.OK)
	is(t, p.Write(3, sheet("x")), api.OK)
	was := p.Stat()
	denies(t, p, api.ErrDamage)
	shows(t, p, 12, 0, counted(was.Hits+1, was.Misses, 0), 0, 3)
	reads(t, p, 3, sheet("x"))
	is(t, p.Free(3), api.OK)
	reads(t, p, 3, free(3))
	gives(t, p, 3)
	gives(t, p, 3)

	d := laid(t, first(3)+sheet("1")+sheet("2"), "")
	p = opened(t, d, 8)
	denies(t, p, api.ErrMissing)
	shows(t, p, 3, 0, counted(0, 0, 0))
	is(t, p.Free(1), api.OK)
	reads(t, p, 1, free(3))
	gives(t, p, 1)
	denies(t, p, api.ErrMissing)
}

// P12: Free without room for page 0: the page is free by then, but page 0 does not tell it.
func TestFreeWithoutRoom(t *testing.T) {
	p, d := over(t, 12)
	pins(t, p, 1, 2, 3, 4, 5, 6, 7, 8)
	is(t, p.Free(9), api.ErrBusy)
	shows(t, p, 12, 0, counted(0, 8, 0), 1, 2, 3, 4, 5, 6, 7, 8)
	is(t, p.Commit(), api.OK)
	is(t, p.Free(4), api.ErrBusy)
	shows(t, p, 12, 0, counted(1, 8, 0), 1, 2, 3, 5, 6, 7, 8, 4)
	reads(t, p, 4, free(0))
	is(t, p.Checkpoint(), api.ErrState)
	has(t, d, placed(12), mark+slot(1, 0, 12))
	is(t, p.Unpin(1), api.OK)
	gives(t, p, 12)
}

// P12: Alloc of a free page without room for page 0, or for the free page
func TestAllocOfAFreePageWithoutRoom(t *testing.T) {
	d := laid(t, first(9)+placed(9)[1024:]+free(0)+sheet("10"), "")
	p := opened(t, d, 8)
	pins(t, p, 1, 2, 3, 4, 5, 6, 7, 8)
	denies(t, p, api.ErrBusy)
	shows(t, p, 11, 0, counted(0, 8, 0), 1, 2, 3, 4, 5, 6, 7, 8)
	is(t, p.Unpin(3), api.OK)
	pins(t, p, 9)
	shows(t, p, 11, 0, counted(0, 9, 0), 1, 2, 4, 5, 6, 7, 8, 9)
	denies(t, p, api.ErrBusy)
	shows(t, p, 11, 0, counted(1, 9, 0), 1, 2, 4, 5, 6, 7, 8, 9)
	reads(t, p, 9, free(0))
	is(t, p.Commit(), api.OK)
	if d.Count() != 8 {
		t.Errorf("%d operations", d.Count()-4)
	}
}

// P12: Alloc and Free with room for one page alone: the free page and page 0 go for one another.
func TestOneRoomForTwo(t *testing.T) {
	d := laid(t, first(9)+placed(9)[1024:]+free(10)+free(0), mark+slot(1, 0, 11))
	p := opened(t, d, 8)
	pins(t, p, 1, 2, 3, 4, 5, 6, 7)
	gives(t, p, 9)
	shows(t, p, 11, 1, counted(1, 10, 1), 1, 2, 3, 4, 5, 6, 7, 9)
	has(t, d, first(9)+placed(9)[1024:]+free(10)+free(0), mark+slot(1, 0, 11)+zeros(24)+frame(0, first(10)))
	reads(t, p, 9, free(0))
	is(t, p.Free(8), api.OK)
	shows(t, p, 11, 3, counted(3, 12, 3), 1, 2, 3, 4, 5, 6, 7, 0)
	if s := fileOf(t, d, 1); s[64:] != frame(0, first(10))+frame(9, free(0))+frame(8, free(10)) {
		t.Error(short(s))
	}
	reads(t, p, 0, first(8))
	gives(t, p, 8)
	gives(t, p, 10)
	gives(t, p, 11)
}

// P12: a page that is free twice, or its own next one, is given as often as the links say.
func TestFreeTwice(t *testing.T) {
	p, _ := over(t, 12)
	is(t, p.Free(3), api.OK)
	is(t, p.Free(3), api.OK)
	reads(t, p, 3, free(3))
	gives(t, p, 3)
	reads(t, p, 0, first(3))
	reads(t, p, 3, free(0))
	gives(t, p, 3)
	reads(t, p, 0, first(0))
	gives(t, p, 12)
}
