package tree_test

import (
	"slices"
	"strconv"
	"testing"

	"relstore/api"
	"relstore/disk"
	"relstore/pool"
	"relstore/tree"
)

// noNodes: pages that are none of a tree's nodes, whatever the bounds of their keys.
func noNodes() []string {
	l := []string{
		run("x", 1024), run("\x00", 1024),
		sealed(1, 0, inline("k", "v"))[:1023] + "x",
		sealed(3, 0), sealed(3, 1), sealed(3, 0, inline("k", "v")),
		sealed(4, 0), sealed(4, 1, child("k", 2)),
		sealed(5, 0), sealed(5, 0, inline("k", "v")), sealed(5, 1, child("k", 2)),
		sealed(2, 2), sealed(2, 0),
	}
	for _, cell := range []string{
		"", "\x00", "\x01", "\x01k", "\x02k", "\x03k\x00", "\xffk\x00v",
		"\x00\x00", "\x00\x00v", "\x00k\x00v",
		"\xc9" + run("k", 201) + "\x00", "\xff" + run("k", 255) + "\x00v",
		"\x01k\x02", "\x01k\x02v", "\x01kv", "\x01k\xff", "\x01k\x02\x03\xe8" + four(2),
		inline("k", run("v", 238)), inline(run("k", 200), run("v", 39)), inline("k", run("v", 900)),
		"\x01k\x01", long("k", 1000, 2)[:8], long("k", 1000, 2) + "\x00", long("k", 1000, 2) + four(2),
		long("k", 3001, 2), long("k", 65535, 2), long("k", 0, 2), long("k", 237, 2), long("k", 237, 0),
		long(run("k", 200), 38, 2),
	} {
		l = append(l, sealed(1, 0, cell), sealed(1, 0, inline("j", "v"), cell), sealed(1, 0, cell, inline("l", "v")))
	}
	for _, cell := range []string{
		"", "\x00", "\x01", "\x01k", "\x02k", "\x00" + four(2), "\x01k\x00\x00\x02", child("k", 2) + "\x00",
		"\x05k" + four(2), "\xc9" + run("k", 201) + four(2), inline("k", "v"), long("k", 1000, 2), "\xff",
	} {
		l = append(l, sealed(2, 2, cell), sealed(2, 2, child("j", 2), cell), sealed(2, 2, cell, child("l", 2)))
	}
	for _, keys := range [][]string{{"k", "k"}, {"l", "k"}, {"k", "kk", "k\x00"}, {"j", "k", "l", "l"}, {"\xff", "k"}} {
		var entries, children []string
		for _, k := range keys {
			entries = append(entries, inline(k, "v"))
			children = append(children, child(k, 2))
		}
		l = append(l, sealed(1, 0, entries...), sealed(2, 2, children...))
	}
	return l
}

// refuses: does each call answer this error, for a key that leads to what is wrong? The pool is laid anew for each one.
func refuses(t *testing.T, want api.Errno, root int, key string, lay func() *pool.Pool) {
	t.Helper()
	for _, c := range calls() {
		p := lay()
		if e := c.do(t, tree.Open(p, root), key); e != want {
			t.Fatalf("%s(%s): %v, want %v", c.name, short(key), e, want)
		}
	}
}

// call of a tree.
type call struct {
	name string
	do   func(t *testing.T, x *tree.Tree, key string) api.Errno
}

// listed: the answer of a call that gives a list.
func listed(t *testing.T, l []api.Entry, e api.Errno) api.Errno {
	t.Helper()
	if e != api.OK && l != nil {
		t.Errorf("%s beside %v", told(l), e)
	}
	return e
}

// calls of a tree that look at its pages. Beside an error all they answer must be zero.
func calls() []call {
	return []call{
		{"Get", func(t *testing.T, x *tree.Tree, key string) api.Errno {
			v, there, e := x.Get(key)
			if e != api.OK && (v != "" || there) {
				t.Errorf("Get: %s, %v beside %v", short(v), there, e)
			}
			return e
		}},
		{"Put", func(t *testing.T, x *tree.Tree, key string) api.Errno { return x.Put(key, "new") }},
		{"Put of much", func(t *testing.T, x *tree.Tree, key string) api.Errno { return x.Put(key, run("n", 3000)) }},
		{"Delete", func(t *testing.T, x *tree.Tree, key string) api.Errno {
			there, e := x.Delete(key)
			if e != api.OK && there {
				t.Errorf("Delete: true beside %v", e)
			}
			return e
		}},
		{"Scan", func(t *testing.T, x *tree.Tree, key string) api.Errno {
			l, e := x.Scan("", "", -1)
			return listed(t, l, e)
		}},
		{"Scan of a key", func(t *testing.T, x *tree.Tree, key string) api.Errno {
			l, e := x.Scan(key, key+"\x00", -1)
			return listed(t, l, e)
		}},
		{"Back", func(t *testing.T, x *tree.Tree, key string) api.Errno {
			l, e := x.Back("", "", -1)
			return listed(t, l, e)
		}},
		{"Back of a key", func(t *testing.T, x *tree.Tree, key string) api.Errno {
			l, e := x.Back(key, key+"\x00", 1)
			return listed(t, l, e)
		}},
		{"Drop", func(t *testing.T, x *tree.Tree, key string) api.Errno { return x.Drop() }},
	}
}

// P13: a root that is none of a tree's
func TestARootThatIsNone(t *testing.T) {
	for i, s := range noNodes() {
		t.Run(strconv.Itoa(i), func(t *testing.T) {
			refuses(t, api.ErrDamage, 1, "k", func() *pool.Pool { return laid(t, 0, s, sealed(1, 0)) })
		})
	}
	refuses(t, api.ErrDamage, 0, "k", func() *pool.Pool { return laid(t, 0, sealed(1, 0)) })
	refuses(t, api.ErrDamage, 2, "k", func() *pool.Pool { return laid(t, 2, sealed(1, 0), sealed(3, 0)) })
	for _, root := range []int{-1, 2, 65536, 1 << 31, 1 << 40, -1 << 40} {
		refuses(t, api.ErrMissing, root, "k", func() *pool.Pool { return laid(t, 0, sealed(1, 0)) })
	}
}

// P13: what is none of a tree's is left as it lies.
func TestWhatIsNoneIsLeft(t *testing.T) {
	for _, s := range []string{run("x", 1024), sealed(3, 0), sealed(4, 0), sealed(5, 0, "v"), sealed(2, 2)} {
		p := laid(t, 0, s, sealed(1, 0))
		for _, c := range calls() {
			is(t, c.do(t, tree.Open(p, 1), "k"), api.ErrDamage)
		}
		pageIs(t, p, 0, sealed(4, 0))
		pageIs(t, p, 1, s)
		if p.Pages() != 3 {
			t.Errorf("%d pages", p.Pages())
		}
	}
}

// full leaf, with keys that begin so.
func full(link int, head string) string {
	return sealed(1, link, inline(head+"1", run("v", 100)), inline(head+"2", run("v", 100)))
}

// P13: a child that is none of a tree's, the first one, one amidst, the last one
func TestAChildThatIsNone(t *testing.T) {
	root := sealed(2, 2, child("k", 3), child("l", 4))
	for i, s := range noNodes() {
		t.Run(strconv.Itoa(i), func(t *testing.T) {
			refuses(t, api.ErrDamage, 1, "j5", func() *pool.Pool { return laid(t, 0, root, s, full(4, "k"), full(0, "l")) })
			refuses(t, api.ErrDamage, 1, "k5", func() *pool.Pool { return laid(t, 0, root, full(3, "j"), s, full(0, "l")) })
			refuses(t, api.ErrDamage, 1, "l5", func() *pool.Pool { return laid(t, 0, root, full(3, "j"), full(4, "k"), s) })
		})
	}
}

// P13: a child that is page 0, that is not there, or that was free
func TestAChildThatIsNotThere(t *testing.T) {
	for _, w := range []struct {
		number int
		want   api.Errno
	}{{0, api.ErrDamage}, {4, api.ErrMissing}, {5, api.ErrMissing}, {1<<31 - 1, api.ErrMissing}, {3, api.ErrDamage}} {
		refuses(t, w.want, 1, "a", func() *pool.Pool { return laid(t, 0, sealed(2, w.number, child("k", 2)), full(0, "k"), sealed(3, 0)) })
		refuses(t, w.want, 1, "k", func() *pool.Pool { return laid(t, 0, sealed(2, 2, child("k", w.number)), full(0, "j"), sealed(3, 0)) })
	}
	for _, n := range []int{1 << 31, 1<<32 - 1} {
		refuses(t, api.ErrMissing, 1, "k", func() *pool.Pool { return laid(t, 0, sealed(2, 2, child("k", n)), full(0, "j")) })
	}
}

// P13: a child whose keys are not where they must be
func TestAChildOutOfPlace(t *testing.T) {
	root := sealed(2, 2, child("k", 3), child("l", 4))
	for _, s := range []string{full(3, "k"), full(3, "l"), sealed(1, 3, inline("j1", run("v", 200)), inline("k", "v")), sealed(2, 5, child("k", 6)), sealed(2, 5, child("j", 6), child("k5", 7))} {
		refuses(t, api.ErrDamage, 1, "j1", func() *pool.Pool {
			return laid(t, 0, root, s, full(4, "k"), full(0, "l"), full(6, "i"), full(7, "j"), full(0, "k"))
		})
	}
	for _, s := range []string{full(4, "j"), full(4, "l"), sealed(1, 4, inline("j\xff", run("v", 200)), inline("k1", "v")), sealed(1, 4, inline("k1", run("v", 200)), inline("l", "v")), sealed(2, 5, child("k", 6)), sealed(2, 5, child("l", 6)), sealed(2, 5, child("j", 6))} {
		refuses(t, api.ErrDamage, 1, "k1", func() *pool.Pool {
			return laid(t, 0, root, full(3, "j"), s, full(0, "l"), full(6, "k"), full(0, "k"))
		})
	}
	for _, s := range []string{full(0, "k"), full(0, "j"), sealed(2, 5, child("l", 6)), sealed(2, 5, child("k", 6))} {
		refuses(t, api.ErrDamage, 1, "l1", func() *pool.Pool {
			return laid(t, 0, root, full(3, "j"), full(4, "k"), s, full(6, "l"), full(0, "l"))
		})
	}
}

// P13: a child that has the key ahead of it, and nothing else, is as it must be.
func TestAChildThatBeginsWithTheKeyAheadOfIt(t *testing.T) {
	v := run("v", 200)
	b := &book{laid(t, 0, sealed(2, 2, child("k", 3)), sealed(1, 3, inline("j\xff", v)), sealed(1, 0, inline("k", v))), 1, nil, map[string]string{"j\xff": v, "k": v}}
	b.x = tree.Open(b.p, 1)
	b.holds(t)
	b.scan(t, "k", "", -1)
	b.scan(t, "", "k", -1)
	b.delete(t, "k")
	b.holds(t)
}

// P1: trees that go round: each call ends.
func TestTreesThatGoRound(t *testing.T) {
	for _, pages := range [][]string{
		{sealed(2, 1, child("k", 1))},
		{sealed(2, 1, child("k", 2)), full(0, "k")},
		{sealed(2, 2, child("k", 1)), full(1, "j")},
		{sealed(2, 2, child("k", 2)), sealed(2, 1, child("j", 1))},
		{sealed(2, 2, child("k", 3)), sealed(2, 1, child("j", 1)), sealed(2, 1, child("l", 1))},
		{sealed(2, 2, child("k", 2), child("l", 2)), sealed(2, 3, child("k5", 3)), sealed(2, 2, child("k6", 2))},
	} {
		for _, key := range []string{"a", "k", "z"} {
			for _, c := range calls() {
				p := laid(t, 0, pages...)
				e := c.do(t, tree.Open(p, 1), key)
				if e != api.OK && e != api.ErrDamage || e == api.OK && len(pages) == 1 {
					t.Errorf("%s(%q): %v", c.name, key, e)
				}
			}
		}
	}
}

// P1: leaves whose links go round, or lead nowhere: each call ends.
func TestLinksThatGoRound(t *testing.T) {
	for _, links := range [][2]int{{2, 2}, {3, 2}, {3, 3}, {0, 0}, {2, 0}, {1, 1}, {99, 99}, {1<<31 - 1, 0}} {
		for _, c := range calls() {
			for _, key := range []string{"j1", "k1", "z"} {
				p := laid(t, 0, sealed(2, 2, child("k", 3)), full(links[0], "j"), full(links[1], "k"))
				x := tree.Open(p, 1)
				c.do(t, x, key)
				c.do(t, x, key)
				for _, head := range []string{"j", "k"} {
					x.Delete(head + "1")
					x.Delete(head + "2")
				}
			}
		}
	}
}

// P1: nodes that have the same child again and again: each call ends soon.
func TestChildrenThatAreShared(t *testing.T) {
	const deep = 40
	var pages []string
	for i := range deep {
		var l []string
		for j := range 20 {
			l = append(l, child("k"+run("m", i)+string([]byte{byte('a' + j)}), i+2))
		}
		pages = append(pages, sealed(2, i+2, l...))
	}
	for _, last := range []string{sealed(1, 0), full(0, "k"), sealed(3, 0)} {
		for _, key := range []string{"a", "k" + run("m", deep), "z"} {
			for _, c := range calls() {
				p := laid(t, 0, append(slices.Clone(pages), last)...)
				c.do(t, tree.Open(p, 1), key)
			}
		}
	}
}

// P13: values whose pages are none
func TestValuesThatAreNone(t *testing.T) {
	piece := run("v", 1000)
	for i, w := range []struct {
		cell  string
		pages []string // from page 2 on
		want  api.Errno
	}{
		{long("k", 1000, 2), []string{sealed(5, 0, piece)}, api.OK},
		{long("k", 1000, 2), []string{sealed(5, 3, piece[:500]), sealed(5, 0, piece[500:])}, api.OK},
		{long("k", 1000, 0), nil, api.ErrDamage},
		{long("k", 1000, 1), nil, api.ErrDamage},
		{long("k", 1000, 2), nil, api.ErrMissing},
		{long("k", 1000, 1<<32-1), nil, api.ErrMissing},
		{long("k", 1000, 2), []string{run("x", 1024)}, api.ErrDamage},
		{long("k", 1000, 2), []string{sealed(1, 0, piece)}, api.ErrDamage},
		{long("k", 1000, 2), []string{sealed(3, 0, piece)}, api.ErrDamage},
		{long("k", 1000, 2), []string{sealed(3, 0)}, api.ErrDamage},
		{long("k", 1000, 2), []string{sealed(5, 0)}, api.ErrDamage},
		{long("k", 1000, 2), []string{sealed(5, 0, "")}, api.ErrDamage},
		{long("k", 1000, 2), []string{sealed(5, 2, "")}, api.ErrDamage},
		{long("k", 1000, 2), []string{sealed(5, 3, ""), sealed(5, 0, piece)}, api.ErrDamage},
		{long("k", 1000, 2), []string{sealed(5, 0, piece[:500], piece[500:])}, api.ErrDamage},
		{long("k", 1000, 2), []string{sealed(5, 0, piece, "")}, api.ErrDamage},
		{long("k", 1000, 2), []string{sealed(5, 0, piece[:999])}, api.ErrDamage},
		{long("k", 1000, 2), []string{sealed(5, 0, piece+"v")}, api.ErrDamage},
		{long("k", 999, 2), []string{sealed(5, 0, piece)}, api.ErrDamage},
		{long("k", 1000, 2), []string{sealed(5, 3, piece), sealed(5, 0, piece)}, api.ErrDamage},
		{long("k", 1000, 2), []string{sealed(5, 2, piece)}, api.ErrDamage},
		{long("k", 1000, 2), []string{sealed(5, 2, piece[:500])}, api.ErrDamage},
		{long("k", 3000, 2), []string{sealed(5, 2, piece)}, api.ErrDamage},
		{long("k", 3000, 2), []string{sealed(5, 2, "v")}, api.ErrDamage},
		{long("k", 1000, 2), []string{sealed(5, 1, piece[:500])}, api.ErrDamage},
		{long("k", 1000, 2), []string{sealed(5, 3, piece[:500])}, api.ErrMissing},
		{long("k", 1000, 2), []string{sealed(5, 3, piece[:500]), sealed(5, 0, piece[:499])}, api.ErrDamage},
		{long("k", 1000, 2), []string{sealed(5, 3, piece[:500]), sealed(5, 0, piece[:501])}, api.ErrDamage},
		{long("k", 1000, 2), []string{sealed(5, 3, piece[:500]), sealed(1, 0, piece[:500])}, api.ErrDamage},
	} {
		t.Run(strconv.Itoa(i), func(t *testing.T) {
			lay := func() *pool.Pool {
				return laid(t, 0, append([]string{sealed(1, 0, inline("j", "v"), w.cell, inline("l", "v"))}, w.pages...)...)
			}
			refuses(t, w.want, 1, "k", lay)
			// The others are there.
			x := tree.Open(lay(), 1)
			for _, k := range []string{"j", "l"} {
				if v, there, e := x.Get(k); v != "v" || !there || e != api.OK {
					t.Errorf("Get(%s): %s, %v, %v", k, short(v), there, e)
				}
			}
			if l, e := x.Scan("", "k", -1); len(l) != 1 || e != api.OK {
				t.Errorf("%s, %v", told(l), e)
			}
			if l, e := x.Back("", "", 1); len(l) != 1 || e != api.OK {
				t.Errorf("%s, %v", told(l), e)
			}
		})
	}
}

// P13: the node beside one that gets too empty is none of a tree's, or not as deep.
func TestANeighbourThatIsNone(t *testing.T) {
	deeper := sealed(2, 4, child("kkk", 5))
	for _, s := range append(noNodes(), deeper) {
		p := laid(t, 0, sealed(2, 2, child("k", 3)), full(3, "j"), s, full(0, "k1"), full(0, "kkkk"))
		if ok, e := tree.Open(p, 1).Delete("j1"); ok || e != api.ErrDamage {
			t.Fatalf("Delete: %v, %v", ok, e)
		}
	}
	deeper = sealed(2, 4, child("jjj", 5))
	for _, s := range append(noNodes(), deeper) {
		p := laid(t, 0, sealed(2, 2, child("k", 3)), s, full(0, "k"), full(0, "i"), full(0, "jjjj"))
		if ok, e := tree.Open(p, 1).Delete("k1"); ok || e != api.ErrDamage {
			t.Fatalf("Delete: %v, %v", ok, e)
		}
	}
}

// P13: a tree in which one page was overwritten: calls that do not come to it answer as ever, the others ErrDamage, and behind a rollback all is well.
func TestAPageIsOverwritten(t *testing.T) {
	d := disk.New()
	b := begun(t, opened(t, d, 8))
	for i := range 60 {
		b.put(t, numbered(i, 120), run("v", i*67%800))
	}
	is(t, b.p.Commit(), api.OK)
	for n := 1; n < b.p.Pages(); n++ {
		for _, s := range []string{run("x", 1024), sealed(3, 0), sealed(4, 0)} {
			is(t, b.p.Write(n, s), api.OK)
			met := 0
			for k, want := range b.want {
				v, there, e := b.x.Get(k)
				switch {
				case e == api.OK && v == want && there:
				case e == api.ErrDamage && v == "" && !there:
					met++
				default:
					t.Fatalf("page %d: %s, %v, %v", n, short(v), there, e)
				}
			}
			if l, e := b.x.Scan("", "", -1); (e == api.ErrDamage) != (met > 0) || (l == nil) != (met > 0) {
				t.Fatalf("page %d: %s, %v", n, told(l), e)
			}
			if l, e := b.x.Back("", "", -1); (e == api.ErrDamage) != (met > 0) || (l == nil) != (met > 0) {
				t.Fatalf("page %d: %s, %v", n, told(l), e)
			}
			if e := b.x.Drop(); (e == api.ErrDamage) != (met > 0) {
				t.Fatalf("page %d: %v", n, e)
			}
			is(t, b.p.Rollback(), api.OK)
		}
	}
	b.holds(t)
}
