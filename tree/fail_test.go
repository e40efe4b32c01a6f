package tree_test

import (
	"strings"
	"testing"

	"relstore/api"
	"relstore/disk"
	"relstore/pool"
	"relstore/tree"
)

// fileOf a disk.
func fileOf(t *testing.T, d *disk.Disk, f int) string {
	t.Helper()
	n, e := d.Size(f)
	is(t, e, api.OK)
	s, e := d.Read(f, 0, n)
	is(t, e, api.OK)
	return s
}

// twin of a disk: another one with the same files, which last.
func twin(t *testing.T, d *disk.Disk) *disk.Disk {
	t.Helper()
	c := disk.New()
	for f := range 2 {
		is(t, c.Write(f, 0, fileOf(t, d, f)), api.OK)
		is(t, c.Sync(f), api.OK)
	}
	return c
}

// grown: a disk with a tree of many pages, the root's number, and what is in the tree.
func grown(t *testing.T) (*disk.Disk, *book) {
	t.Helper()
	d := disk.New()
	b := begun(t, opened(t, d, 8))
	for i := range 50 {
		b.put(t, numbered(i*2, 120), run("v", i*67%800))
	}
	for i := range 5 {
		b.put(t, numbered(i, 200), run("v", 3000))
		b.delete(t, numbered(i, 200))
	}
	is(t, b.p.Commit(), api.OK)
	is(t, b.p.Checkpoint(), api.OK)
	shaped(t, b)
	return d, b
}

// on another disk: the book goes on there.
func (b *book) on(t *testing.T, d *disk.Disk) *book {
	t.Helper()
	p := opened(t, d, 8)
	return &book{p, b.root, tree.Open(p, b.root), b.copy()}
}

// deed: a call of a tree, and what it changes in what must be there.
type deed struct {
	do   func(x *tree.Tree) api.Errno
	does func(want map[string]string)
}

func putting(key, value string) deed {
	return deed{
		func(x *tree.Tree) api.Errno { return x.Put(key, value) },
		func(want map[string]string) { want[key] = value },
	}
}

func deleting(key string) deed {
	return deed{
		func(x *tree.Tree) api.Errno { _, e := x.Delete(key); return e },
		func(want map[string]string) { delete(want, key) },
	}
}

func asking(from, to string, most int) deed {
	return deed{
		func(x *tree.Tree) api.Errno {
			if _, e := x.Scan(from, to, most); e != api.OK {
				return e
			}
			if _, e := x.Back(from, to, most); e != api.OK {
				return e
			}
			_, _, e := x.Get(from)
			return e
		},
		func(want map[string]string) {},
	}
}

// deeds on the tree that has grown: values become longer and shorter, leaves are split and joined.
func deeds() []deed {
	l := []deed{asking(numbered(40, 120), numbered(60, 120), 7), putting(numbered(31, 200), run("w", 38)), putting(numbered(33, 200), run("w", 3000))}
	for i := range 6 {
		l = append(l, putting(numbered(51+2*i, 190), run("w", i*9)), putting(numbered(20+2*i, 120), run("x", 2100-i*400)))
	}
	for i := range 14 {
		l = append(l, deleting(numbered(60+2*i, 120)))
	}
	return append(l, asking("0", "", 3))
}

// P13: the disk goes down behind each number of operations: the call that meets it answers ErrDown, and the tree is as the pool's last commit has it.
func TestADiskThatFails(t *testing.T) {
	d, start := grown(t)
	all := deeds()
	for fail := 0; ; fail++ {
		c := twin(t, d)
		b := start.on(t, c)
		last := b.copy()
		c.Fail(fail)
		e := api.OK
		for i, x := range all {
			if e = x.do(b.x); e != api.OK {
				break
			}
			x.does(b.want)
			if i%5 == 4 {
				if e = b.p.Commit(); e != api.OK {
					break
				}
				last = b.copy()
			}
		}
		if (e == api.OK) == c.Down() || e != api.OK && e != api.ErrDown {
			t.Fatalf("down behind %d: %v", fail, e)
		}
		if e == api.OK {
			if fail < 40 {
				t.Errorf("just %d operations", fail)
			}
			b.holds(t)
			return
		}
		behind := b.want
		c.Crash([][]int{nil, {1, 1, 1, 1, 1, 1, 1, 1, 1, 1}, {2, 0, 1}, {0, 2}}[fail%4])
		b = (&book{root: b.root, want: last}).on(t, c)
		// A commit that was not answered may count.
		if keys := scanned(t, b); keys != keysOf(last) && keys == keysOf(behind) {
			b.want = behind
		}
		shaped(t, b)
		b.put(t, "new", run("n", 500))
		b.delete(t, numbered(60, 120))
		shaped(t, b)
	}
}

// scanned: the keys of a tree.
func scanned(t *testing.T, b *book) string {
	t.Helper()
	l, e := b.x.Scan("", "", -1)
	is(t, e, api.OK)
	var s strings.Builder
	for _, x := range l {
		s.WriteString(x.Key + "\n" + x.Value[:min(1, len(x.Value))])
	}
	return s.String()
}

// keysOf what must be there.
func keysOf(want map[string]string) string {
	var s strings.Builder
	for _, x := range (&book{want: want}).between("", "") {
		s.WriteString(x.Key + "\n" + x.Value[:min(1, len(x.Value))])
	}
	return s.String()
}

// P13: Drop and Create on a disk that goes down
func TestDropAndCreateOnADiskThatFails(t *testing.T) {
	d, start := grown(t)
	for fail := 0; ; fail++ {
		c := twin(t, d)
		b := start.on(t, c)
		c.Fail(fail)
		e := b.x.Drop()
		if (e == api.OK) == c.Down() || e != api.OK && e != api.ErrDown {
			t.Fatalf("down behind %d: %v", fail, e)
		}
		if e == api.OK {
			break
		}
		c.Crash([]int{fail % 3, 1})
		start.on(t, c).holds(t)
	}
	// A pool that is full of pages that were written: one of them has to go to the disk first.
	p := opened(t, d, 8)
	for range 8 {
		created(t, p)
	}
	d.Fail(0)
	if n, e := tree.Create(p); n != 0 || e != api.ErrDown {
		t.Errorf("Create: %d, %v", n, e)
	}
}

// P13: an error of the disk is told by all calls, with nothing beside it; what is held can still be read.
func TestADiskThatIsDown(t *testing.T) {
	d, start := grown(t)
	key := numbered(2*31, 120)
	for _, c := range calls() {
		down := twin(t, d)
		b := start.on(t, down)
		down.Fail(0)
		is(t, down.Sync(0), api.ErrDown)
		is(t, c.do(t, b.x, key), api.ErrDown)
		is(t, c.do(t, b.x, key), api.ErrDown)
	}
	down := twin(t, d)
	b := start.on(t, down)
	b.get(t, key)
	down.Fail(0)
	is(t, down.Sync(0), api.ErrDown)
	b.get(t, key)
	if l, e := b.x.Scan("", "", -1); l != nil || e != api.ErrDown {
		t.Errorf("%s, %v", told(l), e)
	}
	if l, e := b.x.Back("", "", -1); l != nil || e != api.ErrDown {
		t.Errorf("%s, %v", told(l), e)
	}
}

// filler: a pool with a tree, all of whose frames are pinned; none of them holds a page of the tree.
func filler(t *testing.T) (*pool.Pool, *book) {
	t.Helper()
	p := opened(t, disk.New(), 8)
	var others []int
	for range 8 {
		n, e := p.Alloc()
		is(t, e, api.OK)
		others = append(others, n)
	}
	b := begun(t, p)
	for i := range 30 {
		b.put(t, numbered(i, 120), run("v", i*67%800))
	}
	is(t, p.Commit(), api.OK)
	for _, n := range others {
		is(t, p.Pin(n), api.OK)
	}
	return p, b
}

// P13: a pool whose frames are all pinned, and one of which a frame is not
func TestAPoolThatIsBusy(t *testing.T) {
	for _, c := range calls() {
		_, b := filler(t)
		is(t, c.do(t, b.x, numbered(7, 120)), api.ErrBusy)
	}
	p, b := filler(t)
	if n, e := tree.Create(p); n != 0 || e != api.ErrBusy {
		t.Errorf("Create: %d, %v", n, e)
	}
	is(t, p.Unpin(3), api.OK)
	n := created(t, p)
	is(t, tree.Open(p, n).Drop(), api.OK)
	for i := range 30 {
		b.put(t, numbered(i, 121), run("w", i*67%800))
		b.get(t, numbered(i, 120))
		b.delete(t, numbered(i, 120))
	}
	b.scan(t, "", "", -1)
	is(t, b.x.Drop(), api.OK)
	if l := p.Held(); len(l) != 8 {
		t.Errorf("held: %v", l)
	}
	for n := 1; n < 9; n++ {
		if want := api.OK; n != 3 {
			is(t, p.Unpin(n), want)
		}
		is(t, p.Unpin(n), api.ErrState)
	}
}

// P13: what a tree has done when there is no frame left is in the pool, and its Rollback forgets it.
func TestBusyAmidstAChange(t *testing.T) {
	for pinned := range 9 {
		p := opened(t, disk.New(), 8)
		b := begun(t, p)
		b.put(t, "k", "v")
		for i := range 3 {
			b.put(t, numbered(i, 200), run("v", 38))
		}
		for range 6 {
			_, e := p.Alloc()
			is(t, e, api.OK)
		}
		is(t, p.Commit(), api.OK)
		var held []int
		for n := range pinned {
			// The root first: it is there when the others are not.
			n = []int{b.root, 0, 2, 3, 4, 5, 6, 7}[min(n, 7)]
			is(t, p.Pin(n), api.OK)
			held = append(held, n)
		}
		want := api.OK
		if pinned >= 8 {
			want = api.ErrBusy
		}
		b.get(t, "k")
		is(t, b.x.Put("j", run("w", 2500)), want)
		is(t, b.x.Put(numbered(3, 200), run("w", 38)), api.OK)
		is(t, b.x.Put(numbered(4, 200), run("w", 38)), want)
		if want != api.OK {
			b.get(t, "k")
			is(t, p.Rollback(), api.ErrBusy)
		}
		for _, n := range held {
			is(t, p.Unpin(n), api.OK)
		}
		is(t, p.Rollback(), api.OK)
		s := (&look{p, map[int]string{}}).shapeOf(t, b.root)
		if len(s.entries) != 4 || s.deep != 1 {
			t.Fatalf("%s, %d deep", told(s.entries), s.deep)
		}
		b.scan(t, "", "", -1)
	}
}

// brim: a pool with a tree of a leaf, in which there may be so many pages more, and no free one.
func brim(t *testing.T, more int) *book {
	t.Helper()
	var cells []string
	b := &book{root: 1, want: map[string]string{}}
	for i := range 4 {
		k := numbered(i, 200)
		b.want[k] = run("v", 38)
		cells = append(cells, inline(k, b.want[k]))
	}
	d := disk.New()
	is(t, d.Write(0, 0, sealed(4, 0)+sealed(1, 0, cells...)), api.OK)
	is(t, d.Write(1, 0, mark+slot(1, 0, 65536-more)), api.OK)
	b.p = opened(t, d, 8)
	b.x = tree.Open(b.p, 1)
	return b
}

// P13: a pool that may have no more pages: what the tree needs is told by the pool, and Rollback forgets what was done up to then.
func TestAPoolThatIsFull(t *testing.T) {
	for more := range 4 {
		for _, w := range []struct {
			key, value string
			pages      int
		}{{"k", "", 0}, {"k", run("w", 237), 2}, {"k", run("w", 238), 1}, {"k", run("w", 1008), 1}, {"k", run("w", 1009), 2}, {"k", run("w", 3000), 3}, {numbered(1, 200), run("w", 38), 0}, {numbered(4, 200), run("w", 39), 3}} {
			b := brim(t, more)
			want := api.OK
			if w.pages > more {
				want = api.ErrLarge
			}
			is(t, b.x.Put(w.key, w.value), want)
			if want == api.OK {
				b.want[w.key] = w.value
			} else {
				is(t, b.p.Rollback(), api.OK)
			}
			b.scan(t, "", "", -1)
		}
	}
	if n, e := tree.Create(brim(t, 0).p); n != 0 || e != api.ErrLarge {
		t.Errorf("Create: %d, %v", n, e)
	}
	if n, e := tree.Create(brim(t, 1).p); n != 65535 || e != api.OK {
		t.Errorf("Create: %d, %v", n, e)
	}
}

// P13: the pages of an old value serve for a new one, if there may be no more.
func TestAFullPoolTakesAValueInPlace(t *testing.T) {
	b := brim(t, 3)
	b.put(t, "k", run("w", 3000))
	for _, n := range []int{3000, 2500, 10, 1500, 3000} {
		b.put(t, "k", run("x", n))
		b.scan(t, "", "", -1)
	}
	is(t, b.x.Put("j", run("x", 1000)), api.ErrLarge)
}
