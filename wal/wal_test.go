package wal_test

import (
	"math"
	"testing"

	"relstore/api"
	"relstore/disk"
	"relstore/wal"
)

// P11: Open of an empty disk
func TestOpenOfAnEmptyDisk(t *testing.T) {
	d := disk.New()
	l := opened(t, d)
	has(t, d, "", mark+slot(1, 0, 0))
	tells(t, l, d, 0, 0, 4, 0)
	lacks(t, l, 0, api.ErrMissing)
	d.Crash(nil)
	has(t, d, "", mark+slot(1, 0, 0))
}

// P11: Open without a right slot: as many pages as file 0 has whole ones
func TestOpenBeginsAnew(t *testing.T) {
	for size, pages := range map[int]int{0: 0, 1: 0, 1023: 0, 1024: 1, 1025: 1, 2047: 1, 2048: 2, 3 * 1024: 3, 300*1024 + 5: 300} {
		for _, log := range []string{"", "x", mark, mark + slot(1, 0, 0)[1:], mark[1:] + "2" + slot(1, 0, 9), zeros(5000)} {
			d := laid(t, zeros(size), log)
			l := opened(t, d)
			has(t, d, zeros(size), mark+slot(1, 0, pages))
			tells(t, l, d, pages, 0, 8, 0)
			if pages > 0 {
				reads(t, l, pages-1, zeros(1024))
			}
			lacks(t, l, pages, api.ErrMissing)
		}
	}
	d := laid(t, zeros(api.MaxFile), "")
	l := opened(t, d)
	tells(t, l, d, 65536, 0, 8, 0)
	reads(t, l, 65535, zeros(1024))
	lacks(t, l, 65536, api.ErrMissing)
}

// P11: Open with a right slot does nothing on the disk.
func TestOpenOfALog(t *testing.T) {
	log := mark + slot(2, 3, 5) + slot(1, 1, 1) + frame(4, "a") + frame(0, "b") + frame(4, "c") + "more"
	d := laid(t, sheet("zero")+sheet("one")+"two", log)
	d.Fail(0)
	l := opened(t, d)
	tells(t, l, d, 5, 3, 4, 0)
	has(t, d, sheet("zero")+sheet("one")+"two", log)
	reads(t, l, 4, sheet("c"))
	reads(t, l, 0, sheet("b"))
	reads(t, l, 1, sheet("one"))
	lacks(t, l, 2, api.ErrMissing)
	lacks(t, l, 3, api.ErrMissing)
	lacks(t, l, 5, api.ErrMissing)
	if d.Down() {
		t.Error("an operation was asked for")
	}
}

// P11: Append, byte by byte
func TestAppend(t *testing.T) {
	d := laid(t, sheet("zero")+sheet("one"), "")
	l := opened(t, d)
	head := mark + slot(1, 0, 2)
	has(t, d, sheet("zero")+sheet("one"), head)
	log := head + zeros(24)
	for i, x := range []struct {
		n    int
		name string
	}{{1, "a"}, {0x01020304, "b"}, {1, "c"}, {math.MaxInt32, "d"}, {0, "e"}} {
		is(t, l.Append(x.n, sheet(x.name)), api.OK)
		log += frame(x.n, x.name)
		has(t, d, sheet("zero")+sheet("one"), log)
		tells(t, l, d, 2, i+1, 9+i, 1+i)
		reads(t, l, x.n, sheet(x.name))
	}
	reads(t, l, 1, sheet("c"))
	reads(t, l, 0x01020304, sheet("b"))
	reads(t, l, math.MaxInt32, sheet("d"))
	lacks(t, l, 2, api.ErrMissing)
	other := opened(t, d)
	tells(t, other, d, 2, 0, 13, 5)
	reads(t, other, 1, sheet("one"))
	lacks(t, other, math.MaxInt32, api.ErrMissing)
}

// P11: a page of any bytes
func TestAppendOfAnyBytes(t *testing.T) {
	b := make([]byte, 1024)
	for i := range b {
		b[i] = byte(i*7 + i>>8)
	}
	l := opened(t, disk.New())
	for _, s := range []string{string(b), zeros(1024), mark + slot(3, 9, 9) + string(b[:1024-40])} {
		is(t, l.Append(3, s), api.OK)
		reads(t, l, 3, s)
	}
}

// P11: Commit, byte by byte
func TestCommit(t *testing.T) {
	d := disk.New()
	l := opened(t, d)
	is(t, l.Commit(0, sheet("a"), 1), api.OK)
	frames := frame(0, "a")
	has(t, d, "", mark+slot(1, 0, 0)+slot(2, 1, 1)+frames)
	tells(t, l, d, 1, 1, 8, 0)
	is(t, l.Append(2, sheet("b")), api.OK)
	is(t, l.Append(1, sheet("c")), api.OK)
	frames += frame(2, "b") + frame(1, "c")
	has(t, d, "", mark+slot(1, 0, 0)+slot(2, 1, 1)+frames)
	tells(t, l, d, 1, 3, 10, 2)
	is(t, l.Commit(2, sheet("d"), 7), api.OK)
	frames += frame(2, "d")
	has(t, d, "", mark+slot(3, 4, 7)+slot(2, 1, 1)+frames)
	tells(t, l, d, 7, 4, 14, 0)
	is(t, l.Commit(0, sheet("e"), 2), api.OK)
	frames += frame(0, "e")
	has(t, d, "", mark+slot(3, 4, 7)+slot(1, 5, 2)+frames)
	is(t, l.Commit(9, sheet("f"), 65536), api.OK)
	frames += frame(9, "f")
	has(t, d, "", mark+slot(2, 6, 65536)+slot(1, 5, 2)+frames)
	tells(t, l, d, 65536, 6, 22, 0)
	d.Crash(nil)
	has(t, d, "", mark+slot(2, 6, 65536)+slot(1, 5, 2)+frames)
	for _, m := range []*wal.Log{l, opened(t, d)} {
		tells(t, m, d, 65536, 6, 22, 0)
		reads(t, m, 0, sheet("e"))
		reads(t, m, 1, sheet("c"))
		reads(t, m, 2, sheet("d"))
		reads(t, m, 9, sheet("f"))
		lacks(t, m, 3, api.ErrMissing)
	}
}

// P11: the slots take turns, and so do the numbers; a log that was opened goes on where the last one was.
func TestSlotsTakeTurns(t *testing.T) {
	d := disk.New()
	l := opened(t, d)
	before, last := zeros(24), slot(1, 0, 0)
	for i := range 14 {
		if i%3 == 2 {
			l = opened(t, d)
		}
		is(t, l.Commit(i, sheet("x"), i+1), api.OK)
		before, last = last, slot([]int{2, 3, 1}[i%3], i+1, i+1)
		want := mark + before + last
		if i%2 == 1 {
			want = mark + last + before
		}
		if s := fileOf(t, d, 1)[:64]; s != want {
			t.Fatalf("commit %d: %q; want %q", i, s, want)
		}
	}
}

// P11: a page that is in the log may be beyond Pages, and Pages may be more than there are.
func TestPagesAreAsTold(t *testing.T) {
	l := opened(t, laid(t, sheet("zero")+sheet("one"), ""))
	is(t, l.Commit(8, sheet("a"), 1), api.OK)
	if l.Pages() != 1 {
		t.Error(l.Pages())
	}
	reads(t, l, 8, sheet("a"))
	reads(t, l, 1, sheet("one"))
	is(t, l.Commit(8, sheet("b"), 65536), api.OK)
	lacks(t, l, 65535, api.ErrMissing)
}

// P11: Back with something appended
func TestBack(t *testing.T) {
	d := laid(t, sheet("zero"), "")
	l := opened(t, d)
	is(t, l.Commit(1, sheet("a"), 2), api.OK)
	is(t, l.Append(0, sheet("b")), api.OK)
	is(t, l.Append(1, sheet("c")), api.OK)
	is(t, l.Append(2, sheet("d")), api.OK)
	head, all := mark+slot(1, 0, 1)+slot(2, 1, 2), frame(1, "a")+frame(0, "b")+frame(1, "c")+frame(2, "d")
	l.Back()
	has(t, d, sheet("zero"), head+all)
	tells(t, l, d, 2, 1, 15, 3)
	reads(t, l, 0, sheet("zero"))
	reads(t, l, 1, sheet("a"))
	lacks(t, l, 2, api.ErrMissing)
	is(t, l.Append(3, sheet("e")), api.OK)
	has(t, d, sheet("zero"), head+frame(1, "a")+frame(3, "e")+frame(1, "c")+frame(2, "d"))
	tells(t, l, d, 2, 2, 16, 4)
	is(t, l.Commit(0, sheet("f"), 4), api.OK)
	has(t, d, sheet("zero"), mark+slot(3, 3, 4)+slot(2, 1, 2)+frame(1, "a")+frame(3, "e")+frame(0, "f")+frame(2, "d"))
	for _, m := range []*wal.Log{l, opened(t, d)} {
		tells(t, m, d, 4, 3, 20, 0)
		reads(t, m, 0, sheet("f"))
		reads(t, m, 1, sheet("a"))
		reads(t, m, 3, sheet("e"))
		lacks(t, m, 2, api.ErrMissing)
	}
}

// P11: Back with nothing appended
func TestBackOfNothing(t *testing.T) {
	d := disk.New()
	l := opened(t, d)
	l.Back()
	tells(t, l, d, 0, 0, 4, 0)
	is(t, l.Commit(0, sheet("a"), 1), api.OK)
	l.Back()
	l.Back()
	has(t, d, "", mark+slot(1, 0, 0)+slot(2, 1, 1)+frame(0, "a"))
	tells(t, l, d, 1, 1, 8, 0)
	reads(t, l, 0, sheet("a"))
	is(t, l.Checkpoint(), api.OK)
	l.Back()
	tells(t, l, d, 1, 0, 13, 0)
	reads(t, l, 0, sheet("a"))
}

// P11: wrong arguments; nothing is done with them.
func TestWrongArguments(t *testing.T) {
	d := disk.New()
	l := opened(t, d)
	is(t, l.Commit(0, sheet("a"), 1), api.OK)
	is(t, l.Append(1, sheet("b")), api.OK)
	log := fileOf(t, d, 1)
	d.Fail(0)
	for _, n := range []int{-1, math.MaxInt32 + 1, 1 << 32, math.MinInt, math.MaxInt, -1 << 31} {
		lacks(t, l, n, api.ErrArg)
		is(t, l.Append(n, sheet("x")), api.ErrArg)
		is(t, l.Append(n, ""), api.ErrArg)
		is(t, l.Commit(n, sheet("x"), 1), api.ErrArg)
	}
	for _, s := range []string{"", "x", sheet("x")[1:], sheet("x") + "x", sheet("x") + sheet("x")} {
		is(t, l.Append(0, s), api.ErrArg)
		is(t, l.Commit(0, s, 1), api.ErrArg)
	}
	for _, pages := range []int{0, -1, 65537, 1 << 20, 1<<32 + 1, math.MinInt, math.MaxInt} {
		is(t, l.Commit(0, sheet("x"), pages), api.ErrArg)
	}
	has(t, d, "", log)
	tells(t, l, d, 1, 2, 9, 1)
	reads(t, l, 0, sheet("a"))
	reads(t, l, 1, sheet("b"))
	if d.Down() {
		t.Error("an operation was asked for")
	}
}

// P11: the edges of numbers and pages
func TestRightArguments(t *testing.T) {
	for _, pages := range []int{1, 2, 65535, 65536} {
		for _, n := range []int{0, 1, 65535, 65536, math.MaxInt32 - 1, math.MaxInt32} {
			d := disk.New()
			l := opened(t, d)
			lacks(t, l, n, api.ErrMissing)
			is(t, l.Append(n, sheet("a")), api.OK)
			reads(t, l, n, sheet("a"))
			is(t, l.Commit(n, sheet("b"), pages), api.OK)
			has(t, d, "", mark+slot(1, 0, 0)+slot(2, 2, pages)+frame(n, "a")+frame(n, "b"))
			m := opened(t, d)
			tells(t, m, d, pages, 2, 9, 0)
			reads(t, m, n, sheet("b"))
		}
	}
}

// full: a log with so many frames, all of them of page 0, and zeros.
func full(t *testing.T, frames int) (*wal.Log, *disk.Disk) {
	t.Helper()
	d := laid(t, "", mark+slot(1, frames, 1)+zeros(24+1028*frames))
	return opened(t, d), d
}

// P11: a frame that would end beyond MaxFile
func TestGreatestLog(t *testing.T) {
	const most = (api.MaxFile - 64) / 1028
	l, d := full(t, most-1)
	tells(t, l, d, 1, most-1, 4, 0)
	is(t, l.Append(1, sheet("a")), api.OK)
	tells(t, l, d, 1, most, 5, 1)
	is(t, l.Append(2, sheet("b")), api.ErrLarge)
	is(t, l.Commit(2, sheet("b"), 3), api.ErrLarge)
	is(t, l.Append(-1, sheet("b")), api.ErrArg)
	is(t, l.Append(2, sheet("b")[1:]), api.ErrArg)
	is(t, l.Commit(2, sheet("b"), 0), api.ErrArg)
	tells(t, l, d, 1, most, 5, 1)
	reads(t, l, 1, sheet("a"))
	lacks(t, l, 2, api.ErrMissing)
	l.Back()
	tells(t, l, d, 1, most-1, 5, 1)
	is(t, l.Commit(2, sheet("c"), 3), api.OK)
	is(t, l.Commit(2, sheet("d"), 3), api.ErrLarge)
	tells(t, l, d, 3, most, 9, 0)
	m := opened(t, d)
	tells(t, m, d, 3, most, 9, 0)
	reads(t, m, 2, sheet("c"))
	lacks(t, m, 1, api.ErrMissing)
	is(t, m.Append(0, sheet("e")), api.ErrLarge)
	is(t, m.Checkpoint(), api.OK)
	tells(t, m, d, 3, 0, 15, 0)
	if fileOf(t, d, 0) != zeros(2048)+sheet("c") {
		t.Error("the pages")
	}
	is(t, m.Append(0, sheet("e")), api.OK)
	reads(t, m, 0, sheet("e"))
}

// P11: ErrLarge comes ahead of an error of the disk.
func TestGreatestLogOfADiskThatIsDown(t *testing.T) {
	l, d := full(t, (api.MaxFile-64)/1028)
	d.Fail(0)
	is(t, d.Sync(0), api.ErrDown)
	is(t, l.Append(0, sheet("a")), api.ErrLarge)
	is(t, l.Commit(0, sheet("a"), 1), api.ErrLarge)
	is(t, l.Commit(0, sheet("a"), 0), api.ErrArg)
	is(t, l.Append(0, ""), api.ErrArg)
}

// P11: calls over a disk that is down
func TestDown(t *testing.T) {
	d := disk.New()
	empty, l := opened(t, d), opened(t, d)
	is(t, l.Commit(0, sheet("a"), 2), api.OK)
	more := opened(t, d)
	is(t, more.Append(1, sheet("b")), api.OK)
	d.Fail(0)
	reads(t, l, 0, sheet("a"))
	is(t, d.Sync(0), api.ErrDown)
	refused(t, d, api.ErrDown)
	is(t, more.Checkpoint(), api.ErrState)
	is(t, empty.Checkpoint(), api.OK)
	lacks(t, l, 0, api.ErrDown)
	lacks(t, l, 1, api.ErrDown)
	lacks(t, l, math.MaxInt32, api.ErrDown)
	lacks(t, l, -1, api.ErrArg)
	is(t, l.Checkpoint(), api.ErrDown)
	is(t, l.Append(0, sheet("b")), api.ErrDown)
	is(t, l.Append(0, "b"), api.ErrArg)
	is(t, l.Commit(0, sheet("b"), 1), api.ErrDown)
	is(t, l.Commit(0, sheet("b"), 0), api.ErrArg)
	more.Back()
	if more.Frames() != 1 || more.Pages() != 2 {
		t.Error(more.Frames(), more.Pages())
	}
}
