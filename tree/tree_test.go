package tree_test

import (
	"slices"
	"testing"

	"relstore/api"
	"relstore/disk"
	"relstore/page"
	"relstore/pool"
	"relstore/tree"
)

// pageIs: has a page these bytes?
func pageIs(t *testing.T, p *pool.Pool, n int, want string) {
	t.Helper()
	s, e := p.Read(n)
	is(t, e, api.OK)
	if s != want {
		x, _ := page.Open(s)
		y, _ := page.Open(want)
		t.Fatalf("page %d: %+v; want %+v", n, x, y)
	}
}

// P13: Create
func TestCreate(t *testing.T) {
	p := opened(t, disk.New(), 8)
	for want := 1; want < 12; want++ {
		if n := created(t, p); n != want {
			t.Fatalf("root %d, want %d", n, want)
		}
	}
	for n := 1; n < 12; n++ {
		pageIs(t, p, n, sealed(1, 0))
	}
	if p.Pages() != 12 {
		t.Errorf("%d pages", p.Pages())
	}
}

// P13: Create takes a page that is free, whatever it was.
func TestCreateInAFreePage(t *testing.T) {
	p := laid(t, 3, sealed(1, 0, inline("k", "v")), sealed(3, 0), sealed(3, 2))
	for _, want := range []int{3, 2, 4} {
		if n := created(t, p); n != want {
			t.Fatalf("root %d, want %d", n, want)
		}
		pageIs(t, p, want, sealed(1, 0))
	}
	pageIs(t, p, 1, sealed(1, 0, inline("k", "v")))
	if p.Pages() != 5 || freePages(t, p) != 0 {
		t.Errorf("%d pages, %d are free", p.Pages(), freePages(t, p))
	}
}

// P13: Open looks at nothing.
func TestOpenLooksAtNothing(t *testing.T) {
	p := laid(t, 0, sealed(1, 0))
	for _, root := range []int{-1, 0, 1, 2, 1 << 40} {
		if tree.Open(p, root) == nil {
			t.Error("no tree")
		}
	}
	if p.Stat() != (api.PoolStat{}) {
		t.Errorf("%+v", p.Stat())
	}
}

// P13: what is there, in an ordered map
func TestPutGetDelete(t *testing.T) {
	b := alone(t)
	for _, k := range []string{"b", "a", "c", "\x00", "\xff", "ab", "\x00\x00", "b\x00", "\xff\xff", run("\xff", 200), run("\x00", 200), "b"} {
		b.put(t, k, "the value of "+k[:1])
		b.holds(t)
	}
	for _, k := range []string{"aa", "d", "\x01", "\x00\x00\x00", "\xfe", "\xff\xff\xff", run("\xff", 199)} {
		b.get(t, k)
		b.delete(t, k)
	}
	b.holds(t)
	for _, k := range []string{"b", "b", "\xff", "ab", "\x00", "a", "c", "\x00\x00", "b\x00"} {
		b.delete(t, k)
		b.get(t, k)
		b.holds(t)
	}
	of := func(k string) string { return inline(k, "the value of "+k[:1]) }
	pageIs(t, b.p, b.root, sealed(1, 0, of(run("\x00", 200)), of("\xff\xff"), of(run("\xff", 200))))
}

// P13: the edges of keys, and that they are asked first
func TestKeys(t *testing.T) {
	b := alone(t)
	worst := tree.Open(b.p, 99)
	for _, k := range []string{"", run("k", 201), run("\x00", 256), run("k", 457), run("k", 100000)} {
		for _, x := range []*tree.Tree{b.x, worst, tree.Open(nil, 1)} {
			if v, ok, e := x.Get(k); v != "" || ok || e != api.ErrArg {
				t.Errorf("Get(%s): %s, %v, %v", short(k), short(v), ok, e)
			}
			for _, v := range []string{"", "v", run("v", 3000), run("v", 3001)} {
				is(t, x.Put(k, v), api.ErrArg)
			}
			if ok, e := x.Delete(k); ok || e != api.ErrArg {
				t.Errorf("Delete(%s): %v, %v", short(k), ok, e)
			}
		}
	}
	emptied(t, b)
	for _, k := range []string{"k", run("k", 199), run("k", 200), run("\x00", 200), run("\xff", 200), "\x00", "\xff", "\n", "\x80"} {
		b.get(t, k)
		b.delete(t, k)
		b.put(t, k, "")
		b.get(t, k)
		b.put(t, k, "v")
		b.holds(t)
	}
	for _, k := range b.keys() {
		b.delete(t, k)
		b.holds(t)
	}
	emptied(t, b)
}

// P13: the edges of values
func TestValues(t *testing.T) {
	for _, k := range []string{"k", run("k", 100), run("k", 200)} {
		b := alone(t)
		for _, n := range []int{3001, 4096, 65536, 65537, 1000000} {
			is(t, b.x.Put(k, run("v", n)), api.ErrLarge)
			is(t, tree.Open(b.p, 99).Put(k, run("v", n)), api.ErrLarge)
		}
		emptied(t, b)
		for _, n := range []int{0, 1, 37, 38, 39, 100, 136, 137, 138, 139, 236, 237, 238, 239, 255, 256, 257, 1007, 1008, 1009, 2015, 2016, 2017, 2999, 3000} {
			b.put(t, k, run("\x00", n))
			b.holds(t)
			b.put(t, k, numbered(0, max(n, 6)))
			b.holds(t)
			// A value that is too large leaves the one that is there.
			is(t, b.x.Put(k, run("v", 3001)), api.ErrLarge)
			b.holds(t)
			b.delete(t, k)
			emptied(t, b)
		}
	}
}

// P13: the cells of entries whose key and value have 240 bytes together with their 2, or one more
func TestInline(t *testing.T) {
	for _, size := range []int{1, 2, 100, 199, 200} {
		key := run("k", size)
		b := alone(t)
		b.put(t, key, run("v", 238-size))
		pageIs(t, b.p, 1, sealed(1, 0, inline(key, run("v", 238-size))))
		b.put(t, key, run("w", 239-size))
		pageIs(t, b.p, 1, sealed(1, 0, long(key, 239-size, 2)))
		pageIs(t, b.p, 2, sealed(5, 0, run("w", 239-size)))
		b.put(t, key, run("u", 238-size))
		pageIs(t, b.p, 1, sealed(1, 0, inline(key, run("u", 238-size))))
		pageIs(t, b.p, 2, sealed(3, 0))
	}
}

// P13: how a value stands in pages of its own
func TestLongValues(t *testing.T) {
	for _, w := range []struct {
		size   int
		pieces []int
	}{{238, []int{238}}, {1007, []int{1007}}, {1008, []int{1008}}, {1009, []int{1008, 1}}, {2016, []int{1008, 1008}}, {2017, []int{1008, 1008, 1}}, {3000, []int{1008, 1008, 984}}} {
		b := alone(t)
		v := ""
		for len(v) < w.size {
			v += numbered(len(v), 6)
		}
		v = v[:w.size]
		b.put(t, "k", v)
		b.holds(t)
		s, _ := b.p.Read(1)
		leaf, _ := page.Open(s)
		cell := leaf.Cells[0]
		if len(leaf.Cells) != 1 || cell[:5] != "\x01k\x01"+four(w.size)[2:] || len(cell) != 9 {
			t.Fatalf("%q", leaf.Cells)
		}
		n, at := number(cell[5:]), 0
		for i, size := range w.pieces {
			s, _ := b.p.Read(n)
			x, _ := page.Open(s)
			if x.Kind != 5 || len(x.Cells) != 1 || x.Cells[0] != v[at:at+size] || (x.Link == 0) != (i == len(w.pieces)-1) {
				t.Fatalf("piece %d: %+v", i, x)
			}
			n, at = x.Link, at+size
		}
		if b.p.Pages() != 2+len(w.pieces) {
			t.Errorf("%d pages", b.p.Pages())
		}
	}
}

// high: a pool in whose log there are free pages of great numbers, each with the next one for its link.
func high(t *testing.T, numbers ...int) *pool.Pool {
	t.Helper()
	d := disk.New()
	log := mark + slot(1, len(numbers), 1<<31-1) + run("\x00", 24)
	for i, n := range numbers {
		log += four(n) + sealed(3, append(numbers, 0)[i+1])
	}
	is(t, d.Write(0, 0, sealed(4, numbers[0])), api.OK)
	is(t, d.Write(1, 0, log), api.OK)
	return opened(t, d, 8)
}

// P13: the numbers of pages have four bytes, the high one first.
func TestPagesOfGreatNumbers(t *testing.T) {
	for _, put := range []func(b *book){
		func(b *book) { b.put(t, "k", run("v", 2000)) },
		func(b *book) {
			for i := range 5 {
				b.put(t, numbered(i, 200), run("v", 38))
			}
		},
	} {
		b := begun(t, high(t, 0x12345678, 0x7ffefdfc, 0x01020304))
		put(b)
		b.scan(t, "", "", -1)
		l := &look{b.p, map[int]string{}}
		s := l.shapeOf(t, b.root)
		if !slices.Equal(s.entries, b.between("", "")) || len(l.use) != 3 || l.free(t) != 0 {
			t.Errorf("%s in %v", told(s.entries), l.use)
		}
	}
}

// P13: a value in place of a shorter, a longer and an equally long one
func TestInPlace(t *testing.T) {
	sizes := []int{0, 1, 10, 230, 237, 238, 239, 500, 1008, 1009, 2016, 2017, 3000}
	for _, others := range []int{0, 3, 40} {
		b := alone(t)
		for i := range others {
			b.put(t, numbered(i, 30), run("o", i*7%200))
		}
		key := numbered(others/2, 7)
		for _, was := range sizes {
			for _, will := range sizes {
				b.put(t, key, run("a", was))
				shaped(t, b)
				b.put(t, key, run("b", will))
				b.get(t, key)
				shaped(t, b)
			}
		}
		b.holds(t)
		// Three pages are enough for its greatest value, again and again.
		if free := freePages(t, b.p); free > 6 {
			t.Errorf("%d of %d pages are free", free, b.p.Pages())
		}
	}
}

// P13: of keys that are not there nothing changes.
func TestDeleteOfWhatIsNotThere(t *testing.T) {
	b := alone(t)
	for i := range 60 {
		b.put(t, numbered(2*i, 40), run("v", 100))
	}
	is(t, b.p.Commit(), api.OK)
	frames := b.p.Frames()
	for i := range 60 {
		b.delete(t, numbered(2*i+1, 40))
		b.delete(t, numbered(2*i, 39))
		b.delete(t, numbered(2*i, 41))
		b.get(t, numbered(2*i+1, 40))
	}
	is(t, b.p.Commit(), api.OK)
	if b.p.Frames() != frames {
		t.Error("something was written")
	}
	b.holds(t)
}

// wide tree of short keys, whose root has no room for a long one: its second leaf has long keys, of which none stands in the root.
func wide(t *testing.T) *book {
	t.Helper()
	const leaves = 92
	b := &book{root: 1, want: map[string]string{}}
	var children, pages []string
	for i := range leaves {
		two := string([]byte{byte(i), 1})
		var l []string
		for j := range 5 {
			key := two + string([]byte{byte(j)})
			if i == 1 && j < 4 {
				key += run("k", 197)
			}
			b.want[key] = run("v", 32)
			l = append(l, inline(key, b.want[key]))
		}
		if i > 0 {
			children = append(children, child(two, i+2))
		}
		pages = append(pages, sealed(1, (i+3)%(leaves+2), l...))
	}
	b.p = laid(t, 0, append([]string{sealed(2, 2, children...)}, pages...)...)
	b.x = tree.Open(b.p, 1)
	return b
}

// P13: where a leaf that is too empty takes entries of the one beside it, the key between them may be one for which the root has no room: a key goes, and the tree grows.
func TestDeleteMakesTheTreeGrow(t *testing.T) {
	b := wide(t)
	if s := shaped(t, b)[0]; s.deep != 2 {
		t.Fatalf("%d deep", s.deep)
	}
	b.delete(t, "\x00\x01\x01")
	if s := shaped(t, b)[0]; s.deep != 3 || s.inner != 3 {
		t.Fatalf("%d deep, %d inner nodes", s.deep, s.inner)
	}
	b.holds(t)
	for _, k := range b.keys() {
		b.delete(t, k)
		shaped(t, b)
	}
	emptied(t, b)
}

// P13: likewise, if a shorter value is put
func TestPutOfLessMakesTheTreeGrow(t *testing.T) {
	b := wide(t)
	b.put(t, "\x00\x01\x01", "")
	if s := shaped(t, b)[0]; s.deep != 3 || s.inner != 3 {
		t.Fatalf("%d deep, %d inner nodes", s.deep, s.inner)
	}
	b.holds(t)
}

// P13: Drop of an empty tree, of one with a leaf, of a deep one, of one with long values; another tree in the pool stays.
func TestDrop(t *testing.T) {
	for _, k := range builds() {
		for _, n := range []int{0, 1, 4, 30, 240} {
			p := opened(t, disk.New(), 8)
			b, other := begun(t, p), begun(t, p)
			for i := range n {
				key, v := k.entry(i)
				b.put(t, key, v)
				other.put(t, numbered(i, 50), run("o", i*97%600))
			}
			shaped(t, b, other)
			is(t, b.x.Drop(), api.OK)
			other.holds(t)
			is(t, other.x.Drop(), api.OK)
			if free := freePages(t, p); free+1 != p.Pages() {
				t.Fatalf("%s: %d of %d pages are free", k.name, free, p.Pages())
			}
			pages := p.Pages()
			// The same pages are enough for the same tree.
			b = begun(t, p)
			for i := range n {
				key, v := k.entry(i)
				b.put(t, key, v)
			}
			b.holds(t)
			if p.Pages() != pages {
				t.Fatalf("%d pages, %d ahead", p.Pages(), pages)
			}
		}
	}
}

// P13: Rollback and Commit of the pool between the calls, and trees that are opened anew
func TestCommitAndRollback(t *testing.T) {
	d := disk.New()
	p := opened(t, d, 8)
	b := begun(t, p)
	for i := range 60 {
		b.put(t, numbered(i, 60), run("v", i*37%700))
	}
	is(t, p.Commit(), api.OK)
	was := b.copy()
	for i := range 60 {
		switch i % 3 {
		case 0:
			b.delete(t, numbered(i, 60))
		case 1:
			b.put(t, numbered(i, 60), run("w", i*41%900))
		case 2:
			b.put(t, numbered(i, 61), run("u", 30))
		}
		shaped(t, b)
	}
	is(t, p.Rollback(), api.OK)
	b.want = was
	b.holds(t)
	is(t, b.x.Drop(), api.OK)
	is(t, p.Rollback(), api.OK)
	b.holds(t)
	b.x = tree.Open(p, b.root)
	b.holds(t)
	d.Crash(nil)
	b.p = opened(t, d, 64)
	b.x = tree.Open(b.p, b.root)
	b.holds(t)
	for i := range 60 {
		b.put(t, numbered(i, 62), run("w", i*43%900))
		tree.Open(b.p, b.root).Delete(numbered(i, 60))
		delete(b.want, numbered(i, 60))
	}
	b.holds(t)
	is(t, b.p.Commit(), api.OK)
	d.Crash(nil)
	b.p = opened(t, d, 8)
	b.x = tree.Open(b.p, b.root)
	b.holds(t)
}

// P13: a tree that was made and rolled back is none; its root is given again.
func TestCreateAndRollback(t *testing.T) {
	p := opened(t, disk.New(), 8)
	b := begun(t, p)
	is(t, p.Commit(), api.OK)
	other := begun(t, p)
	other.put(t, "k", "v")
	b.put(t, "k", "w")
	is(t, p.Rollback(), api.OK)
	clear(b.want)
	b.holds(t)
	if _, _, e := other.x.Get("k"); e != api.ErrMissing {
		t.Errorf("Get: %v", e)
	}
	if n := created(t, p); n != other.root {
		t.Errorf("root %d", n)
	}
}

// P13: two trees of one pool grow and shrink beside one another.
func TestTwoTrees(t *testing.T) {
	p := opened(t, disk.New(), 8)
	one, two := begun(t, p), begun(t, p)
	for i := range 150 {
		one.put(t, numbered(i*37%150, 100), run("1", i%130))
		two.put(t, numbered(i*41%150, 100), run("2", i*29%400))
		if i%3 == 0 {
			one.delete(t, numbered(i*17%150, 100))
			two.delete(t, numbered(i*19%150, 100))
		}
		shaped(t, one, two)
	}
	for _, b := range []*book{one, two} {
		b.scan(t, "", "", -1)
		for _, k := range b.keys() {
			b.get(t, k)
		}
	}
	for _, k := range one.keys() {
		one.delete(t, k)
		shaped(t, one, two)
	}
	two.scan(t, "", "", -1)
	is(t, one.x.Drop(), api.OK)
	two.holds(t)
}

// P13: two trees that were opened by one root are the same tree.
func TestOneTreeOpenedTwice(t *testing.T) {
	b := alone(t)
	other := &book{b.p, b.root, tree.Open(b.p, b.root), b.want}
	for i := range 100 {
		b.put(t, numbered(i, 80), run("v", i))
		other.get(t, numbered(i, 80))
		other.put(t, numbered(i, 81), run("v", i))
		if i%2 == 0 {
			b.delete(t, numbered(i, 81))
		}
		shaped(t, other)
	}
	b.holds(t)
	other.holds(t)
}
