package wal_test

import (
	"strconv"
	"strings"
	"testing"

	"relstore/api"
	"relstore/disk"
	"relstore/wal"
)

const mark = "relstore log 001"

// sheet: a page with a name in it, and with a beginning and an end that stand out.
func sheet(name string) string {
	return "<" + name + strings.Repeat(".", 1022-len(name)) + ">"
}

// zeros: so many of them.
func zeros(n int) string { return strings.Repeat("\x00", n) }

// four bytes of a number.
func four(n int) string {
	return string([]byte{byte(n >> 24), byte(n >> 16), byte(n >> 8), byte(n)})
}

// slot of a commit.
func slot(number, frames, pages int) string {
	half := four(number) + four(frames) + four(pages)
	return half + half
}

// frame of a page.
func frame(n int, name string) string { return four(n) + sheet(name) }

// is: was this the answer?
func is(t *testing.T, e, want api.Errno) {
	t.Helper()
	if e != want {
		t.Fatalf("answer %v, want %v", e, want)
	}
}

// laid: a disk on which these files last.
func laid(t *testing.T, pages, log string) *disk.Disk {
	t.Helper()
	d := disk.New()
	is(t, d.Write(0, 0, pages), api.OK)
	is(t, d.Write(1, 0, log), api.OK)
	is(t, d.Sync(0), api.OK)
	is(t, d.Sync(1), api.OK)
	return d
}

// opened: a log that must be opened.
func opened(t *testing.T, d *disk.Disk) *wal.Log {
	t.Helper()
	l, e := wal.Open(d)
	if e != api.OK || l == nil {
		t.Fatalf("Open: %v, %v", l, e)
	}
	return l
}

// refused: a disk on which no log is opened.
func refused(t *testing.T, d *disk.Disk, want api.Errno) {
	t.Helper()
	if l, e := wal.Open(d); e != want || l != nil {
		t.Fatalf("Open: %v, %v; want %v", l, e, want)
	}
}

// fileOf a disk.
func fileOf(t *testing.T, d *disk.Disk, f int) string {
	t.Helper()
	n, e := d.Size(f)
	is(t, e, api.OK)
	s, e := d.Read(f, 0, n)
	is(t, e, api.OK)
	return s
}

// has: are these the bytes of both files?
func has(t *testing.T, d *disk.Disk, pages, log string) {
	t.Helper()
	for f, want := range []string{pages, log} {
		if s := fileOf(t, d, f); s != want {
			t.Fatalf("file %d: %s; want %s", f, short(s), short(want))
		}
	}
}

// short form of bytes: without runs of points and zeros.
func short(s string) string {
	return strconv.Quote(strings.NewReplacer(strings.Repeat(".", 100), "", zeros(100), "").Replace(s))
}

// tells: what a log says of itself, and how many operations its disk has done, and how many of them wait.
func tells(t *testing.T, l *wal.Log, d *disk.Disk, pages, frames, count, waits int) {
	t.Helper()
	if l.Pages() != pages || l.Frames() != frames {
		t.Fatalf("%d pages, %d frames; want %d, %d", l.Pages(), l.Frames(), pages, frames)
	}
	if d.Count() != count || d.Waits() != waits {
		t.Fatalf("%d operations, %d wait; want %d, %d", d.Count(), d.Waits(), count, waits)
	}
}

// reads: is this the page, from its first byte to its last?
func reads(t *testing.T, l *wal.Log, n int, want string) {
	t.Helper()
	if s, e := l.Read(n); s != want || e != api.OK {
		t.Fatalf("page %d: %s, %v; want %s", n, short(s), e, short(want))
	}
}

// lacks: is there no page, for this reason?
func lacks(t *testing.T, l *wal.Log, n int, want api.Errno) {
	t.Helper()
	if s, e := l.Read(n); s != "" || e != want {
		t.Fatalf("page %d: %s, %v; want %v", n, short(s), e, want)
	}
}
