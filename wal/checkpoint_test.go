package wal_test

import (
	"math"
	"testing"

	"relstore/api"
	"relstore/disk"
	"relstore/wal"
)

// P11: Checkpoint, byte by byte
func TestCheckpoint(t *testing.T) {
	d := laid(t, sheet("zero")+sheet("one")+sheet("two")+sheet("three")+"rest", "")
	l := opened(t, d)
	is(t, l.Append(3, sheet("a")), api.OK)
	is(t, l.Append(1, sheet("b")), api.OK)
	is(t, l.Append(3, sheet("c")), api.OK)
	is(t, l.Commit(0, sheet("d"), 4), api.OK)
	frames := frame(3, "a") + frame(1, "b") + frame(3, "c") + frame(0, "d")
	tells(t, l, d, 4, 4, 15, 0)
	is(t, l.Checkpoint(), api.OK)
	pages := sheet("d") + sheet("b") + sheet("two") + sheet("c")
	has(t, d, pages, mark+slot(3, 0, 4)+slot(2, 4, 4)+frames)
	tells(t, l, d, 4, 0, 22, 0)
	d.Crash(nil)
	has(t, d, pages, mark+slot(3, 0, 4)+slot(2, 4, 4)+frames)
	for _, m := range []*wal.Log{l, opened(t, d)} {
		tells(t, m, d, 4, 0, 22, 0)
		reads(t, m, 0, sheet("d"))
		reads(t, m, 1, sheet("b"))
		reads(t, m, 2, sheet("two"))
		reads(t, m, 3, sheet("c"))
		lacks(t, m, 4, api.ErrMissing)
	}
	is(t, l.Append(2, sheet("e")), api.OK)
	has(t, d, pages, mark+slot(3, 0, 4)+slot(2, 4, 4)+frame(2, "e")+frame(1, "b")+frame(3, "c")+frame(0, "d"))
	reads(t, l, 2, sheet("e"))
	is(t, l.Commit(2, sheet("f"), 4), api.OK)
	has(t, d, pages, mark+slot(3, 0, 4)+slot(1, 2, 4)+frame(2, "e")+frame(2, "f")+frame(3, "c")+frame(0, "d"))
	m := opened(t, d)
	tells(t, m, d, 4, 2, 27, 0)
	reads(t, m, 2, sheet("f"))
	reads(t, m, 3, sheet("c"))
}

// P11: Checkpoint with nothing in the log
func TestCheckpointOfNothing(t *testing.T) {
	d := laid(t, sheet("zero")+"rest", "")
	l := opened(t, d)
	d.Fail(0)
	is(t, l.Checkpoint(), api.OK)
	has(t, d, sheet("zero")+"rest", mark+slot(1, 0, 1))
	tells(t, l, d, 1, 0, 8, 0)
	d.Fail(-1)
	is(t, l.Commit(0, sheet("a"), 1), api.OK)
	is(t, l.Checkpoint(), api.OK)
	tells(t, l, d, 1, 0, 17, 0)
	log := fileOf(t, d, 1)
	is(t, l.Checkpoint(), api.OK)
	is(t, opened(t, d).Checkpoint(), api.OK)
	has(t, d, sheet("a"), log)
	tells(t, l, d, 1, 0, 17, 0)
}

// P11: Checkpoint with something appended since the last commit
func TestCheckpointBehindAppend(t *testing.T) {
	d := disk.New()
	l := opened(t, d)
	is(t, l.Append(0, sheet("a")), api.OK)
	is(t, l.Checkpoint(), api.ErrState)
	has(t, d, "", mark+slot(1, 0, 0)+zeros(24)+frame(0, "a"))
	tells(t, l, d, 0, 1, 5, 1)
	is(t, l.Commit(1, sheet("b"), 2), api.OK)
	is(t, l.Append(0, sheet("c")), api.OK)
	log := fileOf(t, d, 1)
	is(t, l.Checkpoint(), api.ErrState)
	has(t, d, "", log)
	tells(t, l, d, 2, 3, 10, 1)
	reads(t, l, 0, sheet("c"))
	l.Back()
	is(t, l.Checkpoint(), api.OK)
	tells(t, l, d, 2, 0, 16, 0)
	if fileOf(t, d, 0) != sheet("a")+sheet("b") {
		t.Error("the pages")
	}
	is(t, l.Append(0, sheet("d")), api.OK)
	is(t, l.Checkpoint(), api.ErrState)
	l.Back()
	is(t, l.Checkpoint(), api.OK)
	tells(t, l, d, 2, 0, 17, 1)
}

// P11: pages at Pages and beyond do not come to their places.
func TestCheckpointOfPagesBeyond(t *testing.T) {
	d := laid(t, sheet("zero")+sheet("one")+sheet("two")+sheet("three"), "")
	l := opened(t, d)
	for i, n := range []int{math.MaxInt32, 1, 2, 3, 65536} {
		is(t, l.Append(n, sheet(string(rune('a'+i)))), api.OK)
	}
	is(t, l.Commit(0, sheet("x"), 2), api.OK)
	reads(t, l, 2, sheet("c"))
	reads(t, l, math.MaxInt32, sheet("a"))
	n := d.Count()
	is(t, l.Checkpoint(), api.OK)
	if fileOf(t, d, 0) != sheet("x")+sheet("b") {
		t.Error("the pages")
	}
	tells(t, l, d, 2, 0, n+6, 0)
	for _, n := range []int{2, 3, 65536, math.MaxInt32} {
		lacks(t, l, n, api.ErrMissing)
	}
}

// P11: pages that were never written come as zeros, since the file gets them.
func TestCheckpointOfMorePages(t *testing.T) {
	d := disk.New()
	l := opened(t, d)
	is(t, l.Commit(1, sheet("a"), 4), api.OK)
	lacks(t, l, 0, api.ErrMissing)
	lacks(t, l, 3, api.ErrMissing)
	is(t, l.Checkpoint(), api.OK)
	has(t, d, zeros(1024)+sheet("a")+zeros(2048), mark+slot(3, 0, 4)+slot(2, 1, 4)+frame(1, "a"))
	reads(t, l, 0, zeros(1024))
	reads(t, l, 3, zeros(1024))
	lacks(t, l, 4, api.ErrMissing)
}

// P11: no page of the log below Pages: file 0 is cut, all the same.
func TestCheckpointThatJustCuts(t *testing.T) {
	d := laid(t, sheet("zero")+sheet("one"), "")
	l := opened(t, d)
	is(t, l.Commit(1, sheet("a"), 1), api.OK)
	is(t, l.Checkpoint(), api.OK)
	has(t, d, sheet("zero"), mark+slot(3, 0, 1)+slot(2, 1, 1)+frame(1, "a"))
	tells(t, l, d, 1, 0, 16, 0)
	lacks(t, l, 1, api.ErrMissing)
}

// P11: as many pages as a file holds
func TestCheckpointOfTheGreatestFile(t *testing.T) {
	d := disk.New()
	l := opened(t, d)
	is(t, l.Append(65536, sheet("a")), api.OK)
	is(t, l.Append(0, sheet("b")), api.OK)
	is(t, l.Commit(65535, sheet("c"), 65536), api.OK)
	is(t, l.Checkpoint(), api.OK)
	tells(t, l, d, 65536, 0, 16, 0)
	if n, e := d.Size(0); n != api.MaxFile || e != api.OK {
		t.Fatal(n, e)
	}
	m := opened(t, d)
	reads(t, m, 0, sheet("b"))
	reads(t, m, 65534, zeros(1024))
	reads(t, m, 65535, sheet("c"))
	lacks(t, m, 65536, api.ErrMissing)
}

// P11: what the disk refuses is the answer: a slot that tells of more pages than a file holds.
func TestCheckpointThatTheDiskRefuses(t *testing.T) {
	for _, n := range []int{0, 65536, math.MaxInt32} {
		d := laid(t, "", mark+slot(1, 1, 1<<32-1)+zeros(24)+frame(n, "a"))
		l := opened(t, d)
		tells(t, l, d, 1<<32-1, 1, 4, 0)
		reads(t, l, n, sheet("a"))
		is(t, l.Checkpoint(), api.ErrArg)
	}
}
