package mvcc_test

import (
	"strings"
	"testing"

	"relstore/api"
	"relstore/disk"
	"relstore/mvcc"
	"relstore/page"
	"relstore/pool"
)

// pages of a disk, and what each one is found to be.
type pages struct {
	p     *pool.Pool
	found map[int]string
}

// open a page, which must be found just once.
func (l *pages) open(t *testing.T, n int, as string) api.Page {
	t.Helper()
	if was, ok := l.found[n]; ok {
		t.Fatalf("page %d is %s, and %s", n, was, as)
	}
	l.found[n] = as
	s, e := l.p.Read(n)
	is(t, e, api.OK)
	x, e := page.Open(s)
	is(t, e, api.OK)
	return x
}

// number that the last four bytes of a cell tell.
func number(cell string) int {
	n := 0
	for _, b := range []byte(cell[len(cell)-4:]) {
		n = n<<8 | int(b)
	}
	return n
}

// tree of a root: the cells of its leaves.
func (l *pages) tree(t *testing.T, root int, as string) []string {
	t.Helper()
	x := l.open(t, root, as)
	if x.Kind == api.LeafPage {
		for _, c := range x.Cells {
			if c[1+int(c[0])] == 1 {
				l.chain(t, number(c), "a value of "+as)
			}
		}
		return x.Cells
	}
	cells := l.tree(t, x.Link, as)
	for _, c := range x.Cells {
		cells = append(cells, l.tree(t, number(c), as)...)
	}
	return cells
}

// chain of pages, each linked to the next.
func (l *pages) chain(t *testing.T, n int, as string) {
	t.Helper()
	for n != 0 {
		n = l.open(t, n, as).Link
	}
}

// whole: each page of a disk is page 0, of the directory, of a table's tree that is not empty, or free; none is lost. How many tables there are, and how many pages are not free.
func whole(t *testing.T, d *disk.Disk) (tables, used int) {
	t.Helper()
	p, e := pool.Open(d, 8)
	is(t, e, api.OK)
	l := &pages{p, map[int]string{}}
	l.chain(t, l.open(t, 0, "page 0").Link, "free")
	free := len(l.found) - 1
	for _, c := range l.tree(t, 1, "the directory") {
		tables++
		if len(l.tree(t, number(c), "a table")) == 0 {
			t.Fatal("a table without entries has a tree")
		}
	}
	if len(l.found) != p.Pages() {
		t.Fatalf("%d pages of %d were found", len(l.found), p.Pages())
	}
	return tables, p.Pages() - free
}

// slot of the log that tells of no frames, and of so many pages.
func slot(pages int) string {
	half := "\x00\x00\x00\x01\x00\x00\x00\x00" + string([]byte{byte(pages >> 24), byte(pages >> 16), byte(pages >> 8), byte(pages)})
	return half + half
}

// brim: a disk like this one, on which there may be so many pages more. The others are of nothing.
func brim(t *testing.T, d *disk.Disk, more int) *disk.Disk {
	t.Helper()
	is(t, opened(t, d, 8).Checkpoint(), api.OK)
	c := twin(t, d)
	is(t, c.Write(1, 0, "relstore log 001"+slot(65536-more)), api.OK)
	is(t, c.Sync(1), api.OK)
	return c
}

// takes: a store that had no room takes what needs none, and what others have given room for.
func takes(t *testing.T, d *disk.Disk, s *mvcc.Store, more int) {
	t.Helper()
	long := run("x", 3000)
	commit(t, s, "a", "3")
	if more < 3 {
		x := s.Begin()
		all(t, api.OK, x.Put(1, "c", long), x.Put(1, "a", "4"))
		is(t, x.Commit(), api.ErrLarge)
	}
	commit(t, s, "b", "")
	commit(t, s, "c", long)
	for _, r := range []*mvcc.Store{s, opened(t, d, 8)} {
		if !isState(t, r, state{{1, "a"}: "3", {1, "c"}: long}) {
			t.Fatal("the store does not go on")
		}
	}
}

// P14: a disk without room: nothing of the commit counts, and the store goes on.
func TestADiskWithoutRoom(t *testing.T) {
	base := disk.New()
	s := opened(t, base, 8)
	commit(t, s, "a", "1", "b", run("v", 3000))
	start := state{{1, "a"}: "1", {1, "b"}: run("v", 3000)}
	long := run("w", 3000)
	for _, w := range []struct {
		c     chapter
		pages int
	}{
		{chapter{{spot{1, "a"}, "2", true}}, 0},
		{chapter{{spot{1, "c"}, "2", true}}, 0},
		{chapter{{spot{1, "b"}, long, true}}, 0},
		{chapter{{spot{1, "c"}, run("w", 1000), true}}, 1},
		{chapter{{spot{2, "c"}, "", true}}, 1},
		{chapter{{spot{1, "c"}, run("w", 2000), true}}, 2},
		{chapter{{spot{1, "a"}, "2", true}, {spot{1, "c"}, long, true}}, 3},
		{chapter{{spot{2, "c"}, long, true}, {spot{1, "a"}, "", false}}, 4},
		{chapter{{spot{1, "c"}, long, true}, {spot{2, "d"}, "1", true}, {spot{3, "d"}, "1", true}}, 5},
		// What goes, or gets shorter, gives its pages to what comes, whichever key is the greater one.
		{chapter{{spot{1, "b"}, "", false}, {spot{1, "c"}, long, true}}, 0},
		{chapter{{spot{1, "b"}, "", false}, {spot{0, "c"}, long, true}}, 1},
		{chapter{{spot{0, "c"}, "1", true}, {spot{1, "a"}, "", false}, {spot{1, "b"}, "", false}}, 0},
		{chapter{{spot{0, "c"}, long, true}, {spot{1, "a"}, "", false}, {spot{1, "b"}, "", false}}, 0},
		{chapter{{spot{1, "b"}, run("x", 1500), true}, {spot{1, "a"}, run("x", 1000), true}}, 0},
		{chapter{{spot{1, "b"}, run("x", 1500), true}, {spot{1, "a"}, run("x", 1100), true}}, 1},
	} {
		for more := range 7 {
			d := brim(t, base, more)
			s := opened(t, d, 8)
			old := s.Begin()
			x := s.Begin()
			w.c.write(x)
			if w.pages > more {
				is(t, x.Commit(), api.ErrLarge)
				isOver(t, x)
				if x.Mark() != 0 {
					t.Error("writes stand")
				}
				counts(t, s, 0, 0)
				if !isState(t, s, start) {
					t.Fatalf("%d pages, %d more: something of it counts", w.pages, more)
				}
				takes(t, d, s, more)
				continue
			}
			is(t, x.Commit(), api.OK)
			counts(t, s, 1, len(w.c))
			if !isState(t, s, done(start, w.c)) || !isState(t, opened(t, d, 8), done(start, w.c)) {
				t.Fatalf("%d pages, %d more: not all of it counts", w.pages, more)
			}
			sees(t, old, 1, "a1 b"+run("v", 3000))
		}
	}
}

// P14: a log without room for a commit: nothing of it counts, and the store goes on.
func TestALogWithoutRoom(t *testing.T) {
	base := disk.New()
	s := opened(t, base, 8)
	commit(t, s, "a", "1", "b", "1")
	log := fileOf(t, base, 1)
	frames := (len(log) - 64) / 1028
	// So many frames of nothing come first that there are few more.
	empty := (67108864-64)/1028 - frames - 6
	var text strings.Builder
	half := string([]byte{0, 0, 0, 1, 0, byte((empty + frames) >> 16), byte((empty + frames) >> 8), byte(empty + frames), 0, 0, 0, 3})
	text.WriteString("relstore log 001" + half + half + run("\x00", 24))
	text.WriteString(run("\x7f\xff\xff\xff"+run("\x00", 1024), empty))
	text.WriteString(log[64:])
	d := disk.New()
	all(t, api.OK, d.Write(0, 0, fileOf(t, base, 0)), d.Write(1, 0, text.String()), d.Sync(0), d.Sync(1))
	s = opened(t, d, 8)
	left(t, s, "a1 b1")
	for range 2 {
		x := s.Begin()
		for i := range 4 {
			is(t, x.Put(1, numbered(i, 6), run("v", 3000)), api.OK)
		}
		is(t, x.Commit(), api.ErrLarge)
		isOver(t, x)
		counts(t, s, 0, 0)
		left(t, s, "a1 b1")
	}
	commit(t, s, "a", "2")
	left(t, s, "a2 b1")
	commit(t, s, "a", run("v", 3000), "b", run("v", 3000), "c", run("v", 3000), "d", run("v", 3000))
	commit(t, s, "a", "3", "b", "", "c", "", "d", "")
	left(t, opened(t, d, 8), "a3")
}

// P14: tables that come and go take no pages with them.
func TestNoPageIsLost(t *testing.T) {
	d := disk.New()
	s := opened(t, d, 8)
	_, least := whole(t, d)
	for round := range 5 {
		x := s.Begin()
		for i := range 150 {
			is(t, x.Put(i*1000+round, "k", run("v", i*20)), api.OK)
			is(t, x.Put(7, numbered(i, 100), run("v", i*20)), api.OK)
		}
		is(t, x.Commit(), api.OK)
		if n, used := whole(t, d); n != 151 || used < 300 {
			t.Fatalf("%d tables, %d pages", n, used)
		}
		x = s.Begin()
		for i := range 150 {
			is(t, x.Erase(7, numbered(i, 100)), api.OK)
			if ok, e := x.Delete(i*1000+round, "k"); !ok || e != api.OK {
				t.Fatal(ok, e)
			}
		}
		is(t, x.Commit(), api.OK)
		if n, used := whole(t, d); n != 0 || used != least {
			t.Fatalf("%d tables, %d pages", n, used)
		}
	}
}
