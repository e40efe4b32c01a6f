package pool_test

import (
	"math"
	"strings"
	"testing"

	"relstore/api"
	"relstore/disk"
)

// P12: Open of a disk on which there is nothing
func TestOpenOfANewDisk(t *testing.T) {
	for _, most := range []int{8, 9, 64} {
		d := disk.New()
		p := opened(t, d, most)
		log := mark + slot(1, 0, 0) + slot(2, 1, 1) + frame(0, first(0))
		has(t, d, "", log)
		shows(t, p, 1, 1, counted(0, 0, 0))
		if d.Count() != 8 || d.Waits() != 0 {
			t.Errorf("%d operations, %d wait", d.Count(), d.Waits())
		}
		reads(t, p, 0, "\xf0\x65\xa3\x74\x04"+zeros(1019))
		shows(t, p, 1, 1, counted(0, 1, 0), 0)
		has(t, d, "", log)
	}
}

// P12: Open, how many pages it may hold
func TestOpenWithSoManyPages(t *testing.T) {
	for _, most := range []int{math.MinInt, -1, 0, 1, 7, 65, 72, math.MaxInt} {
		d := disk.New()
		refused(t, d, most, api.ErrArg)
		if d.Count() != 0 {
			t.Errorf("%d: %d operations", most, d.Count())
		}
		d.Fail(0)
		is(t, d.Sync(0), api.ErrDown)
		refused(t, d, most, api.ErrArg)
	}
}

// P12: a pool holds as many pages as it was told.
func TestMost(t *testing.T) {
	for most := 8; most <= 64; most++ {
		p := opened(t, laid(t, placed(70), mark+slot(1, 0, 70)), most)
		for n := range 70 {
			uses(t, p, n)
			if l := p.Held(); len(l) != min(n+1, most) || l[0] != max(0, n+1-most) || l[len(l)-1] != n {
				t.Fatalf("%d pages: %v", most, l)
			}
		}
	}
}

// P12: Open of a disk on which there are pages does nothing there.
func TestOpenOfPages(t *testing.T) {
	for _, x := range []struct {
		pages, log    string
		n, frames     int
		first, second string
	}{
		{pages: placed(3), log: mark + slot(2, 0, 3), n: 3, first: first(0), second: sheet("1")},
		{pages: placed(3), log: mark + slot(3, 2, 2) + zeros(24) + frame(1, sheet("a")) + frame(0, first(1)), n: 2, frames: 2, first: first(1), second: sheet("a")},
		{pages: placed(3) + "rest", log: mark + slot(1, 1, 4) + slot(2, 2, 5) + frame(1, sheet("a")) + frame(1, sheet("b")), n: 5, frames: 2, first: first(0), second: sheet("b")},
	} {
		d := laid(t, x.pages, x.log)
		p := opened(t, d, 8)
		shows(t, p, x.n, x.frames, counted(0, 0, 0))
		has(t, d, x.pages, x.log)
		reads(t, p, 0, x.first)
		reads(t, p, 1, x.second)
		if d.Count() != 4 {
			t.Errorf("%d operations", d.Count()-4)
		}
	}
}

// P12: Open of pages at their places, beside a log that is none
func TestOpenOfPagesWithoutALog(t *testing.T) {
	d := laid(t, placed(3)+"rest", "what is no log")
	p := opened(t, d, 8)
	shows(t, p, 3, 0, counted(0, 0, 0))
	has(t, d, placed(3)+"rest", mark+slot(1, 0, 3))
	reads(t, p, 2, sheet("2"))
	lacks(t, p, 3, api.ErrMissing)
}

// P12: Open of a log without pages, beside less than a page
func TestOpenOfALogWithoutPages(t *testing.T) {
	d := laid(t, "rest", mark+slot(3, 0, 0))
	p := opened(t, d, 8)
	shows(t, p, 1, 1, counted(0, 0, 0))
	has(t, d, "rest", mark+slot(3, 0, 0)+slot(1, 1, 1)+frame(0, first(0)))
}

// P12: a first page that is none, or that is not there, tells no first free page.
func TestOpenWithoutAFirstPage(t *testing.T) {
	refused(t, laid(t, sheet("zero")+sheet("one"), ""), 8, api.ErrDamage)
	refused(t, laid(t, "", mark+slot(1, 0, 3)), 8, api.ErrMissing)
}

// P12: which pages there are
func TestUseOfWhatIsNotThere(t *testing.T) {
	p, d := over(t, 12)
	for _, n := range []int{math.MinInt, -1, 12, 13, 1 << 31, math.MaxInt} {
		lacks(t, p, n, api.ErrMissing)
		is(t, p.Pin(n), api.ErrMissing)
		is(t, p.Unpin(n), api.ErrState)
		is(t, p.Write(n, sheet("x")), api.ErrMissing)
		is(t, p.Free(n), api.ErrMissing)
	}
	shows(t, p, 12, 0, counted(0, 0, 0))
	has(t, d, placed(12), mark+slot(1, 0, 12))
	reads(t, p, 0, first(0))
	reads(t, p, 11, sheet("11"))
	shows(t, p, 12, 0, counted(0, 2, 0), 0, 11)
	is(t, p.Commit(), api.OK)
	if d.Count() != 4 {
		t.Errorf("%d operations", d.Count()-4)
	}
}

// P12: hits and misses, and the order
func TestOrder(t *testing.T) {
	p, d := over(t, 12)
	uses(t, p, 3, 1, 2)
	shows(t, p, 12, 0, counted(0, 3, 0), 3, 1, 2)
	uses(t, p, 1)
	shows(t, p, 12, 0, counted(1, 3, 0), 3, 2, 1)
	uses(t, p, 1)
	shows(t, p, 12, 0, counted(2, 3, 0), 3, 2, 1)
	pins(t, p, 3)
	shows(t, p, 12, 0, counted(3, 3, 0), 2, 1, 3)
	is(t, p.Write(2, sheet("x")), api.OK)
	shows(t, p, 12, 0, counted(4, 3, 0), 1, 3, 2)
	is(t, p.Unpin(3), api.OK)
	shows(t, p, 12, 0, counted(4, 3, 0), 1, 3, 2)
	is(t, p.Write(7, sheet("y")), api.OK)
	pins(t, p, 8)
	shows(t, p, 12, 0, counted(4, 5, 0), 1, 3, 2, 7, 8)
	has(t, d, placed(12), mark+slot(1, 0, 12))
	if d.Count() != 4 {
		t.Errorf("%d operations", d.Count()-4)
	}
	reads(t, p, 2, sheet("x"))
	reads(t, p, 7, sheet("y"))
	reads(t, p, 8, sheet("8"))
}

// P12: room for one page more: a clean one goes, and nothing is written.
func TestACleanPageGoes(t *testing.T) {
	p, d := over(t, 12)
	uses(t, p, 1, 2, 3, 4, 5, 6, 7, 8)
	shows(t, p, 12, 0, counted(0, 8, 0), 1, 2, 3, 4, 5, 6, 7, 8)
	uses(t, p, 9)
	shows(t, p, 12, 0, counted(0, 9, 0), 2, 3, 4, 5, 6, 7, 8, 9)
	uses(t, p, 2, 10)
	shows(t, p, 12, 0, counted(1, 10, 0), 4, 5, 6, 7, 8, 9, 2, 10)
	reads(t, p, 1, sheet("1"))
	has(t, d, placed(12), mark+slot(1, 0, 12))
	if d.Count() != 4 {
		t.Errorf("%d operations", d.Count()-4)
	}
}

// P12: a dirty page that goes is appended, and read again.
func TestADirtyPageGoes(t *testing.T) {
	p, d := over(t, 12)
	is(t, p.Write(1, sheet("x")), api.OK)
	uses(t, p, 2, 3, 4, 5, 6, 7, 8)
	shows(t, p, 12, 0, counted(0, 8, 0), 1, 2, 3, 4, 5, 6, 7, 8)
	has(t, d, placed(12), mark+slot(1, 0, 12))
	uses(t, p, 9)
	shows(t, p, 12, 1, counted(0, 9, 1), 2, 3, 4, 5, 6, 7, 8, 9)
	log := mark + slot(1, 0, 12) + zeros(24) + frame(1, sheet("x"))
	has(t, d, placed(12), log)
	if d.Waits() != 1 {
		t.Errorf("%d wait", d.Waits())
	}
	// It is clean now, as the log has it: when it goes once more nothing is appended.
	reads(t, p, 1, sheet("x"))
	uses(t, p, 2, 3, 4, 5, 6, 7, 8, 9)
	shows(t, p, 12, 1, counted(0, 18, 1), 2, 3, 4, 5, 6, 7, 8, 9)
	has(t, d, placed(12), log)
	// Written anew it is dirty again.
	is(t, p.Write(1, sheet("y")), api.OK)
	uses(t, p, 2, 3, 4, 5, 6, 7, 8, 9)
	has(t, d, placed(12), log+frame(1, sheet("y")))
	shows(t, p, 12, 2, counted(0, 27, 2), 2, 3, 4, 5, 6, 7, 8, 9)
	reads(t, p, 1, sheet("y"))
}

// P12: pages that are pinned stay; the first one that is not goes.
func TestPinnedPagesStay(t *testing.T) {
	p, d := over(t, 12)
	pins(t, p, 1, 2)
	uses(t, p, 3)
	pins(t, p, 4)
	uses(t, p, 5, 6, 7, 8, 9)
	shows(t, p, 12, 0, counted(0, 9, 0), 1, 2, 4, 5, 6, 7, 8, 9)
	is(t, p.Write(5, sheet("x")), api.OK)
	uses(t, p, 6, 7, 8, 9)
	shows(t, p, 12, 0, counted(5, 9, 0), 1, 2, 4, 5, 6, 7, 8, 9)
	uses(t, p, 10)
	shows(t, p, 12, 1, counted(5, 10, 1), 1, 2, 4, 6, 7, 8, 9, 10)
	has(t, d, placed(12), mark+slot(1, 0, 12)+zeros(24)+frame(5, sheet("x")))
	is(t, p.Unpin(2), api.OK)
	uses(t, p, 11)
	shows(t, p, 12, 1, counted(5, 11, 1), 1, 4, 6, 7, 8, 9, 10, 11)
}

// P12: all pages are pinned.
func TestAllArePinned(t *testing.T) {
	p, d := over(t, 12)
	is(t, p.Write(3, sheet("x")), api.OK)
	pins(t, p, 1, 2, 3, 4, 5, 6, 7, 8)
	held := []int{1, 2, 3, 4, 5, 6, 7, 8}
	lacks(t, p, 9, api.ErrBusy)
	is(t, p.Pin(10), api.ErrBusy)
	is(t, p.Write(11, sheet("y")), api.ErrBusy)
	is(t, p.Free(11), api.ErrBusy)
	denies(t, p, api.ErrBusy)
	is(t, p.Rollback(), api.ErrBusy)
	lacks(t, p, 12, api.ErrMissing)
	is(t, p.Write(9, sheet("y")[1:]), api.ErrArg)
	is(t, p.Unpin(9), api.ErrState)
	shows(t, p, 12, 0, counted(1, 8, 0), held...)
	has(t, d, placed(12), mark+slot(1, 0, 12))
	// What is held can be used, written, pinned and committed.
	uses(t, p, 1)
	is(t, p.Write(2, sheet("z")), api.OK)
	pins(t, p, 3)
	is(t, p.Commit(), api.OK)
	shows(t, p, 12, 2, counted(4, 8, 0), 4, 5, 6, 7, 8, 1, 2, 3)
	has(t, d, placed(12), mark+slot(1, 0, 12)+slot(2, 2, 12)+frame(2, sheet("z"))+frame(3, sheet("x")))
	is(t, p.Checkpoint(), api.OK)
	is(t, p.Unpin(7), api.OK)
	uses(t, p, 9)
	shows(t, p, 12, 0, counted(4, 9, 0), 4, 5, 6, 8, 1, 2, 3, 9)
}

// P12: Pin and Unpin, as often as they are told
func TestPins(t *testing.T) {
	p, _ := over(t, 12)
	is(t, p.Unpin(1), api.ErrState)
	uses(t, p, 1)
	is(t, p.Unpin(1), api.ErrState)
	pins(t, p, 1, 1, 1)
	uses(t, p, 2, 3, 4, 5, 6, 7, 8)
	for range 3 {
		uses(t, p, 9, 2, 3, 4, 5, 6, 7, 8)
		if p.Held()[0] != 1 {
			t.Fatalf("held: %v", p.Held())
		}
		is(t, p.Unpin(1), api.OK)
	}
	is(t, p.Unpin(1), api.ErrState)
	uses(t, p, 9)
	if p.Held()[0] == 1 {
		t.Fatalf("held: %v", p.Held())
	}
	is(t, p.Unpin(1), api.ErrState)
	uses(t, p, 1)
	is(t, p.Unpin(1), api.ErrState)
	pins(t, p, 0)
	is(t, p.Unpin(0), api.OK)
	is(t, p.Unpin(0), api.ErrState)
}

// P12: what may not be written
func TestWriteRefuses(t *testing.T) {
	p, d := over(t, 12)
	long := strings.Repeat("x", 1025)
	for _, s := range []string{"", "x", long[:1023], long, long + long} {
		for _, n := range []int{-1, 0, 1, 11, 12} {
			is(t, p.Write(n, s), api.ErrArg)
		}
	}
	is(t, p.Write(0, long[:1024]), api.ErrArg)
	is(t, p.Write(-1, long[:1024]), api.ErrMissing)
	is(t, p.Write(12, long[:1024]), api.ErrMissing)
	shows(t, p, 12, 0, counted(0, 0, 0))
	is(t, p.Commit(), api.OK)
	has(t, d, placed(12), mark+slot(1, 0, 12))
	is(t, p.Write(11, long[:1024]), api.OK)
	reads(t, p, 11, long[:1024])
	shows(t, p, 12, 0, counted(1, 1, 0), 11)
}

// P12: Commit with nothing written does nothing.
func TestCommitOfNothing(t *testing.T) {
	p, d := over(t, 12)
	uses(t, p, 5, 3)
	pins(t, p, 4)
	for range 2 {
		is(t, p.Commit(), api.OK)
		shows(t, p, 12, 0, counted(0, 3, 0), 5, 3, 4)
		if d.Count() != 4 {
			t.Errorf("%d operations", d.Count()-4)
		}
	}
	is(t, p.Write(3, sheet("x")), api.OK)
	is(t, p.Commit(), api.OK)
	n := d.Count()
	is(t, p.Commit(), api.OK)
	shows(t, p, 12, 1, counted(1, 3, 0), 5, 4, 3)
	if d.Count() != n {
		t.Errorf("%d operations", d.Count()-n)
	}
}

// P12: Commit of dirty pages, by rising numbers; order and counts stay.
func TestCommitOfDirtyPages(t *testing.T) {
	p, d := over(t, 12)
	for _, n := range []int{10, 2, 11, 1, 9} {
		is(t, p.Write(n, sheet("x")), api.OK)
	}
	uses(t, p, 3, 2)
	is(t, p.Commit(), api.OK)
	shows(t, p, 12, 5, counted(1, 6, 0), 10, 11, 1, 9, 3, 2)
	log := mark + slot(1, 0, 12) + slot(2, 5, 12) + frame(1, sheet("x")) + frame(2, sheet("x")) + frame(9, sheet("x")) + frame(10, sheet("x")) + frame(11, sheet("x"))
	has(t, d, placed(12), log)
	if d.Count() != 4+5+3 || d.Waits() != 0 {
		t.Errorf("%d operations, %d wait", d.Count()-4, d.Waits())
	}
	// They are clean now.
	uses(t, p, 4, 5, 6, 7, 8)
	shows(t, p, 12, 5, counted(1, 11, 0), 9, 3, 2, 4, 5, 6, 7, 8)
	is(t, p.Write(9, sheet("y")), api.OK)
	is(t, p.Commit(), api.OK)
	has(t, d, placed(12), mark+slot(3, 6, 12)+log[40:]+frame(9, sheet("y")))
}

// P12: Commit behind spills: those pages that are dirty still are appended.
func TestCommitBehindASpill(t *testing.T) {
	p, d := over(t, 12)
	is(t, p.Write(5, sheet("x")), api.OK)
	is(t, p.Write(4, sheet("y")), api.OK)
	uses(t, p, 1, 2, 3, 6, 7, 8, 9)
	is(t, p.Commit(), api.OK)
	shows(t, p, 12, 2, counted(0, 9, 1), 4, 1, 2, 3, 6, 7, 8, 9)
	has(t, d, placed(12), mark+slot(1, 0, 12)+slot(2, 2, 12)+frame(5, sheet("x"))+frame(4, sheet("y")))
	reads(t, p, 5, sheet("x"))
}

// P12: Commit with none dirty any more: page 0 is used, and committed.
func TestCommitWithNoneDirty(t *testing.T) {
	p, d := over(t, 12)
	is(t, p.Write(5, sheet("x")), api.OK)
	uses(t, p, 1, 2, 3, 4, 6, 7, 8, 9)
	is(t, p.Commit(), api.OK)
	shows(t, p, 12, 2, counted(0, 10, 1), 2, 3, 4, 6, 7, 8, 9, 0)
	log := frame(5, sheet("x")) + frame(0, first(0))
	has(t, d, placed(12), mark+slot(1, 0, 12)+slot(2, 2, 12)+log)
	// Page 0 is held already, and 5 is held again, but clean.
	is(t, p.Write(5, sheet("y")), api.OK)
	uses(t, p, 0, 1, 2, 3, 4, 6, 7, 8, 9, 5)
	uses(t, p, 0)
	was := p.Stat()
	is(t, p.Commit(), api.OK)
	log += frame(5, sheet("y")) + frame(0, first(0))
	has(t, d, placed(12), mark+slot(3, 4, 12)+slot(2, 2, 12)+log)
	shows(t, p, 12, 4, counted(was.Hits+1, was.Misses, was.Spills), 3, 4, 6, 7, 8, 9, 5, 0)
	is(t, p.Commit(), api.OK)
	if p.Frames() != 4 {
		t.Errorf("%d frames", p.Frames())
	}
}

// P12: Commit with none dirty, and no room for page 0
func TestCommitWithoutRoom(t *testing.T) {
	p, d := over(t, 12)
	is(t, p.Write(9, sheet("x")), api.OK)
	pins(t, p, 1, 2, 3, 4, 5, 6, 7, 8)
	log := frame(9, sheet("x"))
	for range 2 {
		is(t, p.Commit(), api.ErrBusy)
		shows(t, p, 12, 1, counted(0, 9, 1), 1, 2, 3, 4, 5, 6, 7, 8)
		has(t, d, placed(12), mark+slot(1, 0, 12)+zeros(24)+log)
	}
	is(t, p.Checkpoint(), api.ErrState)
	is(t, p.Unpin(6), api.OK)
	is(t, p.Commit(), api.OK)
	shows(t, p, 12, 2, counted(0, 10, 1), 1, 2, 3, 4, 5, 7, 8, 0)
	has(t, d, placed(12), mark+slot(1, 0, 12)+slot(2, 2, 12)+log+frame(0, first(0)))
}

// logged: a log with so many frames, all of page 1, over 3 pages.
func logged(frames int) string {
	return mark + slot(1, frames, 3) + zeros(24) + strings.Repeat(frame(1, sheet("a")), frames)
}

// P12: a commit that brings the log to 1,000 frames is followed by a checkpoint.
func TestCommitOfAThousandFrames(t *testing.T) {
	for _, x := range []struct{ frames, pages, left int }{
		{997, 1, 998}, {998, 1, 999}, {999, 1, 0}, {997, 2, 999}, {998, 2, 0}, {999, 2, 0}, {1000, 1, 0}, {1500, 2, 0},
	} {
		d := laid(t, placed(3), logged(x.frames))
		p := opened(t, d, 8)
		is(t, p.Commit(), api.OK)
		shows(t, p, 3, x.frames, counted(0, 0, 0))
		log := logged(x.frames)[64:]
		for n := 2; n > 2-x.pages; n-- {
			is(t, p.Write(n, sheet("x")), api.OK)
		}
		is(t, p.Commit(), api.OK)
		for n := 3 - x.pages; n < 3; n++ {
			log += frame(n, sheet("x"))
		}
		head := mark + slot(1, x.frames, 3) + slot(2, x.frames+x.pages, 3)
		pages := placed(3)
		if x.left == 0 {
			head = mark + slot(3, 0, 3) + slot(2, x.frames+x.pages, 3)
			pages = first(0) + sheet([]string{"a", "x"}[x.pages-1]) + sheet("x")
		}
		has(t, d, pages, head+log)
		if p.Frames() != x.left || d.Waits() != 0 {
			t.Errorf("%d frames and %d: %d left, %d wait", x.frames, x.pages, p.Frames(), d.Waits())
		}
		reads(t, p, 2, sheet("x"))
		p = opened(t, d, 8)
		reads(t, p, 2, sheet("x"))
	}
}

// P12: spills bring the log to 1,000 frames, but a commit is what is followed by a checkpoint; frames are the log's, those that are not committed among them.
func TestSpillsOfAThousandFrames(t *testing.T) {
	d := laid(t, placed(30), mark+slot(1, 0, 30))
	p := opened(t, d, 8)
	for i := range 1500 {
		is(t, p.Write(i%29+1, sheet("x")), api.OK)
		shows(t, p, 30, max(0, i-7), counted(0, i+1, max(0, i-7)), p.Held()...)
	}
	is(t, p.Commit(), api.OK)
	shows(t, p, 30, 0, counted(0, 1500, 1492), p.Held()...)
	if s := fileOf(t, d, 0); s != first(0)+strings.Repeat(sheet("x"), 29) {
		t.Error(short(s))
	}
}

// P12: Rollback with a page that is pinned does nothing.
func TestRollbackOfAPinnedPage(t *testing.T) {
	p, d := over(t, 12)
	is(t, p.Write(1, sheet("x")), api.OK)
	uses(t, p, 2, 3, 4, 5, 6, 7, 8, 9)
	gives(t, p, 12)
	pins(t, p, 5)
	is(t, p.Rollback(), api.ErrBusy)
	shows(t, p, 13, 1, counted(1, 9, 1), 3, 4, 6, 7, 8, 9, 12, 5)
	has(t, d, placed(12), mark+slot(1, 0, 12)+zeros(24)+frame(1, sheet("x")))
	reads(t, p, 1, sheet("x"))
	is(t, p.Unpin(5), api.OK)
	is(t, p.Rollback(), api.OK)
	shows(t, p, 12, 0, counted(1, 11, 1), 4, 6, 7, 8, 9, 5, 0)
	lacks(t, p, 12, api.ErrMissing)
	reads(t, p, 1, sheet("1"))
}

// P12: Rollback with nothing written: page 0 is used.
func TestRollbackOfNothing(t *testing.T) {
	p, d := over(t, 12)
	is(t, p.Rollback(), api.OK)
	shows(t, p, 12, 0, counted(0, 1, 0), 0)
	uses(t, p, 1, 2, 3, 4, 5, 6, 7)
	is(t, p.Rollback(), api.OK)
	shows(t, p, 12, 0, counted(1, 8, 0), 1, 2, 3, 4, 5, 6, 7, 0)
	uses(t, p, 1, 2, 3, 4, 5, 6, 7, 8)
	is(t, p.Rollback(), api.OK)
	shows(t, p, 12, 0, counted(8, 10, 0), 2, 3, 4, 5, 6, 7, 8, 0)
	if d.Count() != 4 {
		t.Errorf("%d operations", d.Count()-4)
	}
	is(t, p.Commit(), api.OK)
	has(t, d, placed(12), mark+slot(1, 0, 12))
}

// P12: Rollback: what was written, made and freed, and page 0 with it, is held no more.
func TestRollback(t *testing.T) {
	p, d := over(t, 12)
	uses(t, p, 1, 0, 2, 3)
	is(t, p.Write(2, sheet("x")), api.OK)
	gives(t, p, 12)
	is(t, p.Rollback(), api.OK)
	shows(t, p, 12, 0, counted(2, 4, 0), 1, 3, 0)
	is(t, p.Free(3), api.OK)
	gives(t, p, 3)
	gives(t, p, 12)
	is(t, p.Write(12, sheet("y")), api.OK)
	uses(t, p, 4, 1)
	is(t, p.Rollback(), api.OK)
	shows(t, p, 12, 0, counted(2+1+2+4+1+1, 4+1+1, 0), 4, 1, 0)
	has(t, d, placed(12), mark+slot(1, 0, 12))
	for n := 1; n < 12; n++ {
		reads(t, p, n, placed(12)[1024*n:1024*n+1024])
	}
	reads(t, p, 0, first(0))
	gives(t, p, 12)
	is(t, p.Rollback(), api.OK)
	is(t, p.Commit(), api.OK)
	is(t, p.Checkpoint(), api.OK)
	has(t, d, placed(12), mark+slot(1, 0, 12))
}

// P12: Rollback behind spills: pages that were read again since are not those of the last commit.
func TestRollbackBehindASpill(t *testing.T) {
	p, d := over(t, 12)
	is(t, p.Write(1, sheet("a")), api.OK)
	is(t, p.Commit(), api.OK)
	is(t, p.Write(1, sheet("b")), api.OK)
	is(t, p.Write(2, sheet("c")), api.OK)
	is(t, p.Free(3), api.OK)
	uses(t, p, 4, 5, 6, 7, 8, 9, 10, 11)
	shows(t, p, 12, 5, counted(2, 12, 4), 4, 5, 6, 7, 8, 9, 10, 11)
	reads(t, p, 0, first(3))
	reads(t, p, 1, sheet("b"))
	reads(t, p, 3, free(0))
	is(t, p.Rollback(), api.OK)
	shows(t, p, 12, 1, counted(2, 16, 4), 7, 8, 9, 10, 11, 0)
	reads(t, p, 0, first(0))
	reads(t, p, 1, sheet("a"))
	reads(t, p, 2, sheet("2"))
	reads(t, p, 3, sheet("3"))
	// The next frame stands behind the last commit's.
	is(t, p.Write(2, sheet("d")), api.OK)
	is(t, p.Commit(), api.OK)
	if s := fileOf(t, d, 1); s[:64+2*1028] != mark+slot(3, 2, 12)+slot(2, 1, 12)+frame(1, sheet("a"))+frame(2, sheet("d")) {
		t.Error(short(s))
	}
	p = opened(t, d, 8)
	gives(t, p, 12)
	reads(t, p, 2, sheet("d"))
}

// P12: Rollback leaves what was committed, also if it is still held from before the commit.
func TestRollbackBehindACommit(t *testing.T) {
	p, _ := over(t, 12)
	is(t, p.Write(1, sheet("a")), api.OK)
	is(t, p.Free(2), api.OK)
	gives(t, p, 2)
	gives(t, p, 12)
	is(t, p.Free(4), api.OK)
	is(t, p.Commit(), api.OK)
	shows(t, p, 13, 5, counted(7, 4, 0), 1, 2, 12, 4, 0)
	is(t, p.Write(1, sheet("b")), api.OK)
	gives(t, p, 4)
	gives(t, p, 13)
	is(t, p.Rollback(), api.OK)
	shows(t, p, 13, 5, counted(12, 5, 0), 2, 12, 0)
	reads(t, p, 1, sheet("a"))
	reads(t, p, 0, first(4))
	gives(t, p, 4)
	gives(t, p, 13)
}

// P12: Checkpoint with something written, and without
func TestCheckpoint(t *testing.T) {
	p, d := over(t, 12)
	is(t, p.Checkpoint(), api.OK)
	if d.Count() != 4 {
		t.Errorf("%d operations", d.Count()-4)
	}
	is(t, p.Write(2, sheet("x")), api.OK)
	is(t, p.Checkpoint(), api.ErrState)
	is(t, p.Commit(), api.OK)
	is(t, p.Checkpoint(), api.OK)
	shows(t, p, 12, 0, counted(0, 1, 0), 2)
	pages := placed(2) + sheet("x") + placed(12)[3*1024:]
	log := slot(2, 1, 12) + frame(2, sheet("x"))
	has(t, d, pages, mark+slot(3, 0, 12)+log)
	for _, turn := range []func() api.Errno{
		func() api.Errno { return p.Write(3, sheet("3")) },
		func() api.Errno { return p.Free(5) },
		func() api.Errno { _, e := p.Alloc(); return e },
	} {
		is(t, turn(), api.OK)
		is(t, p.Checkpoint(), api.ErrState)
		uses(t, p, 1, 2, 3, 4, 6, 7, 8, 9)
		is(t, p.Checkpoint(), api.ErrState)
		is(t, p.Rollback(), api.OK)
		is(t, p.Checkpoint(), api.OK)
	}
	if s := fileOf(t, d, 0); s != pages {
		t.Error(short(s))
	}
	shows(t, p, 12, 0, p.Stat(), p.Held()...)
}

// P12: what tells of a pool counts nothing; neither do Unpin, Checkpoint and Commit.
func TestTellingCountsNothing(t *testing.T) {
	p, d := over(t, 12)
	uses(t, p, 1, 2)
	for range 3 {
		p.Pages()
		p.Frames()
		p.Held()
		p.Stat()
		is(t, p.Unpin(1), api.ErrState)
		is(t, p.Checkpoint(), api.OK)
		is(t, p.Commit(), api.OK)
	}
	shows(t, p, 12, 0, counted(0, 2, 0), 1, 2)
	if d.Count() != 4 {
		t.Errorf("%d operations", d.Count()-4)
	}
}
