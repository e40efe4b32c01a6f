package pool_test

import (
	"slices"
	"strconv"
	"strings"
	"testing"

	"relstore/api"
	"relstore/disk"
	"relstore/page"
	"relstore/pool"
)

const mark = "relstore log 001"

// sheet: 1,024 bytes with a name in them, and with a beginning and an end that stand out.
func sheet(name string) string {
	return "<" + name + strings.Repeat(".", 1022-len(name)) + ">"
}

// zeros: so many of them.
func zeros(n int) string { return strings.Repeat("\x00", n) }

// sealed: the bytes of a page that may be.
func sealed(kind, link int, cells ...string) string {
	s, e := page.Seal(api.Page{Kind: kind, Link: link, Cells: cells})
	if e != api.OK {
		panic(e)
	}
	return s
}

// first page of a pool, with this first free page.
func first(link int) string { return sealed(4, link) }

// free page, with this next one.
func free(link int) string { return sealed(3, link) }

// four bytes of a number.
func four(n int) string {
	return string([]byte{byte(n >> 24), byte(n >> 16), byte(n >> 8), byte(n)})
}

// slot of a commit.
func slot(number, frames, pages int) string {
	half := four(number) + four(frames) + four(pages)
	return half + half
}

// frame of a page.
func frame(n int, text string) string { return four(n) + text }

// is: was this the answer?
func is(t *testing.T, e, want api.Errno) {
	t.Helper()
	if e != want {
		t.Fatalf("answer %v, want %v", e, want)
	}
}

// laid: a disk on which these files last.
func laid(t *testing.T, pages, log string) *disk.Disk {
	t.Helper()
	d := disk.New()
	is(t, d.Write(0, 0, pages), api.OK)
	is(t, d.Write(1, 0, log), api.OK)
	is(t, d.Sync(0), api.OK)
	is(t, d.Sync(1), api.OK)
	return d
}

// placed: so many pages at their places, page 0 and sheets with the names "1", "2" ..
func placed(n int) string {
	var s strings.Builder
	s.WriteString(first(0))
	for i := 1; i < n; i++ {
		s.WriteString(sheet(strconv.Itoa(i)))
	}
	return s.String()
}

// opened: a pool that must be opened.
func opened(t *testing.T, d *disk.Disk, most int) *pool.Pool {
	t.Helper()
	p, e := pool.Open(d, most)
	if e != api.OK || p == nil {
		t.Fatalf("Open: %v, %v", p, e)
	}
	return p
}

// refused: is no pool opened?
func refused(t *testing.T, d *disk.Disk, most int, want api.Errno) {
	t.Helper()
	if p, e := pool.Open(d, most); e != want || p != nil {
		t.Fatalf("Open: %v, %v; want %v", p, e, want)
	}
}

// over: a pool that holds 8 pages, over so many that are at their places, with an empty log.
func over(t *testing.T, n int) (*pool.Pool, *disk.Disk) {
	t.Helper()
	d := laid(t, placed(n), mark+slot(1, 0, n))
	return opened(t, d, 8), d
}

// fileOf a disk.
func fileOf(t *testing.T, d *disk.Disk, f int) string {
	t.Helper()
	n, e := d.Size(f)
	is(t, e, api.OK)
	s, e := d.Read(f, 0, n)
	is(t, e, api.OK)
	return s
}

// has: are these the bytes of both files?
func has(t *testing.T, d *disk.Disk, pages, log string) {
	t.Helper()
	for f, want := range []string{pages, log} {
		if s := fileOf(t, d, f); s != want {
			t.Fatalf("file %d: %s; want %s", f, short(s), short(want))
		}
	}
}

// short form of bytes: without runs of points and zeros.
func short(s string) string {
	s = strings.NewReplacer(strings.Repeat(".", 100), "", zeros(100), "").Replace(s)
	return strconv.Quote(s[:min(len(s), 3000)])
}

// counted so far.
func counted(hits, misses, spills int) api.PoolStat {
	return api.PoolStat{Hits: hits, Misses: misses, Spills: spills}
}

// shows: what a pool says of itself.
func shows(t *testing.T, p *pool.Pool, pages, frames int, stat api.PoolStat, held ...int) {
	t.Helper()
	if p.Pages() != pages || p.Frames() != frames {
		t.Fatalf("%d pages, %d frames; want %d, %d", p.Pages(), p.Frames(), pages, frames)
	}
	if p.Stat() != stat {
		t.Fatalf("%+v; want %+v", p.Stat(), stat)
	}
	if l := p.Held(); !slices.Equal(l, held) {
		t.Fatalf("held: %v; want %v", l, held)
	}
}

// reads: is this the page, from its first byte to its last?
func reads(t *testing.T, p *pool.Pool, n int, want string) {
	t.Helper()
	if s, e := p.Read(n); s != want || e != api.OK {
		t.Fatalf("page %d: %s, %v; want %s", n, short(s), e, short(want))
	}
}

// lacks: is there no page, for this reason?
func lacks(t *testing.T, p *pool.Pool, n int, want api.Errno) {
	t.Helper()
	if s, e := p.Read(n); s != "" || e != want {
		t.Fatalf("page %d: %s, %v; want %v", n, short(s), e, want)
	}
}

// gives: is this the page that Alloc gives?
func gives(t *testing.T, p *pool.Pool, want int) {
	t.Helper()
	if n, e := p.Alloc(); n != want || e != api.OK {
		t.Fatalf("Alloc: %d, %v; want %d", n, e, want)
	}
}

// denies: does Alloc give none, for this reason?
func denies(t *testing.T, p *pool.Pool, want api.Errno) {
	t.Helper()
	if n, e := p.Alloc(); n != 0 || e != want {
		t.Fatalf("Alloc: %d, %v; want %v", n, e, want)
	}
}

// uses pages, one behind the other.
func uses(t *testing.T, p *pool.Pool, pages ...int) {
	t.Helper()
	for _, n := range pages {
		if s, e := p.Read(n); len(s) != 1024 || e != api.OK {
			t.Fatalf("page %d: %d bytes, %v", n, len(s), e)
		}
	}
}

// pins pages, one behind the other.
func pins(t *testing.T, p *pool.Pool, pages ...int) {
	t.Helper()
	for _, n := range pages {
		is(t, p.Pin(n), api.OK)
	}
}
