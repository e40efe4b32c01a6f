package tree_test

import (
	"slices"
	"testing"

	"relstore/api"
	"relstore/page"
	"relstore/pool"
)

// look at the pages of a pool: of what each one is.
type look struct {
	p   *pool.Pool
	use map[int]string
}

// pagesOpened so far, by their bytes: to reckon checksums again and again takes long.
var pagesOpened = map[string]api.Page{}

// page of a pool, and what it is used for: each one just once.
func (l *look) page(t *testing.T, n int, use string) api.Page {
	s, e := l.p.Read(n)
	is(t, e, api.OK)
	x, ok := pagesOpened[s]
	if !ok {
		if x, e = page.Open(s); e != api.OK {
			t.Fatalf("page %d, %s: %v", n, use, e)
		}
		if len(pagesOpened) > 20000 {
			clear(pagesOpened)
		}
		pagesOpened[s] = x
	}
	if l.use[n] != "" {
		t.Fatalf("page %d: %s, and %s", n, l.use[n], use)
	}
	l.use[n] = use
	return x
}

// shape of a tree.
type shape struct {
	*look
	entries []api.Entry
	leaves  []int // from left to right
	links   []int // theirs
	deep    int   // of the leaves
	root    int
	inner   int
}

// cut a cell: its key, and what is behind it.
func cut(t *testing.T, cell string) (string, string) {
	if len(cell) < 2 || cell[0] == 0 || cell[0] > 200 || len(cell) < 1+int(cell[0]) {
		t.Fatalf("cell %s", short(cell))
	}
	return cell[1 : 1+cell[0]], cell[1+cell[0]:]
}

// number of a page, in four bytes.
func number(s string) int { return int(s[0])<<24 | int(s[1])<<16 | int(s[2])<<8 | int(s[3]) }

// node: of the tree from here on, whose keys must be from low on, and below high.
func (s *shape) node(t *testing.T, n, deep int, low, high string) {
	x := s.page(t, n, "a node")
	if n != s.root && page.Used(x.Cells) < 180 {
		t.Fatalf("page %d: %d bytes", n, page.Used(x.Cells))
	}
	last := ""
	for _, c := range x.Cells {
		key, _ := cut(t, c)
		if key < low || high != "" && key >= high || key <= last {
			t.Fatalf("page %d: key %s behind %s, from %s to %s", n, short(key), short(last), short(low), short(high))
		}
		last = key
	}
	switch x.Kind {
	case 1:
		s.leaf(t, n, x, deep)
	case 2:
		s.children(t, n, x, deep, low, high)
	default:
		t.Fatalf("page %d: kind %d", n, x.Kind)
	}
}

// leaf of the tree.
func (s *shape) leaf(t *testing.T, n int, x api.Page, deep int) {
	if len(s.leaves) > 0 && s.deep != deep {
		t.Fatalf("leaves at %d and at %d", s.deep, deep)
	}
	s.deep = deep
	s.leaves = append(s.leaves, n)
	s.links = append(s.links, x.Link)
	for _, c := range x.Cells {
		key, rest := cut(t, c)
		s.entries = append(s.entries, api.Entry{Key: key, Value: s.value(t, key, rest)})
	}
}

// value of an entry, by what stands behind its key.
func (s *shape) value(t *testing.T, key, rest string) string {
	if rest == "" {
		t.Fatalf("nothing behind %s", short(key))
	}
	if rest[0] == 0 {
		if 2+len(key)+len(rest)-1 > 240 {
			t.Fatalf("%s: a value of %d bytes in its cell", short(key), len(rest)-1)
		}
		return rest[1:]
	}
	if rest[0] != 1 || len(rest) != 7 {
		t.Fatalf("%s: %s", short(key), short(rest))
	}
	size := int(rest[1])<<8 | int(rest[2])
	if 2+len(key)+size <= 240 || size > 3000 {
		t.Fatalf("%s: a value of %d bytes in pages", short(key), size)
	}
	v := ""
	pages := 0
	for n := number(rest[3:]); n != 0; pages++ {
		x := s.page(t, n, "of a value")
		if x.Kind != 5 || len(x.Cells) != 1 {
			t.Fatalf("page %d of the value of %s: kind %d, %d cells", n, short(key), x.Kind, len(x.Cells))
		}
		v += x.Cells[0]
		n = x.Link
	}
	if len(v) != size || pages != (size+1007)/1008 {
		t.Fatalf("%s: %d bytes in %d pages; want %d", short(key), len(v), pages, size)
	}
	return v
}

// children of an inner node.
func (s *shape) children(t *testing.T, n int, x api.Page, deep int, low, high string) {
	if len(x.Cells) == 0 {
		t.Fatalf("page %d: one child", n)
	}
	s.inner++
	from, number4 := low, four(x.Link)
	for _, c := range x.Cells {
		key, rest := cut(t, c)
		if len(rest) != 4 {
			t.Fatalf("page %d: cell %s", n, short(c))
		}
		s.node(t, number(number4), deep+1, from, key)
		from, number4 = key, rest
	}
	s.node(t, number(number4), deep+1, from, high)
}

// shapeOf a tree.
func (l *look) shapeOf(t *testing.T, root int) *shape {
	t.Helper()
	s := &shape{look: l, root: root}
	s.node(t, root, 1, "", "")
	for i, link := range s.links {
		if want := append(s.leaves, 0)[i+1]; link != want {
			t.Fatalf("leaf %d: link %d, want %d", s.leaves[i], link, want)
		}
	}
	return s
}

// free pages.
func (l *look) free(t *testing.T) int {
	t.Helper()
	n := 0
	for k := l.page(t, 0, "page 0").Link; k != 0; n++ {
		x := l.page(t, k, "free")
		if x.Kind != 3 || len(x.Cells) != 0 {
			t.Fatalf("free page %d: kind %d, %d cells", k, x.Kind, len(x.Cells))
		}
		k = x.Link
	}
	return n
}

// shaped: are these all trees of a pool, with what must be in them? Their shapes; no page is lost.
func shaped(t *testing.T, books ...*book) []*shape {
	t.Helper()
	l := &look{books[0].p, map[int]string{}}
	var shapes []*shape
	for _, b := range books {
		s := l.shapeOf(t, b.root)
		if want := b.between("", ""); !slices.Equal(s.entries, want) {
			t.Fatalf("in the pages: %s; want %s", told(s.entries), told(want))
		}
		shapes = append(shapes, s)
	}
	l.free(t)
	if len(l.use) != l.p.Pages() {
		t.Fatalf("%d of %d pages are lost", l.p.Pages()-len(l.use), l.p.Pages())
	}
	return shapes
}

// freePages of a pool without trees, or with these.
func freePages(t *testing.T, p *pool.Pool) int {
	t.Helper()
	return (&look{p, map[int]string{}}).free(t)
}

// order in which keys come or go.
type order struct {
	name string
	at   func(i, n int) int
}

func orders() []order {
	return []order{
		{"rising", func(i, n int) int { return i }},
		{"falling", func(i, n int) int { return n - 1 - i }},
		{"from the middle", func(i, n int) int { return n/2 + (i+1)/2*(1-i%2*2) }},
		{"mixed", func(i, n int) int { return i * 7919 % n }},
	}
}

// build: what the entries of a tree are like.
type build struct {
	name  string
	deep  int // at least
	entry func(i int) (string, string)
}

func builds() []build {
	return []build{
		{"small", 2, func(i int) (string, string) { return string([]byte{byte(i >> 8), byte(i)}), "" }},
		{"greatest in a leaf", 4, func(i int) (string, string) { return numbered(i, 200), run("v", 38) }},
		{"long keys without values", 4, func(i int) (string, string) { return run("k", 194) + numbered(i, 6), "" }},
		{"short keys with values", 2, func(i int) (string, string) { return numbered(i, 6), run("v", 232) }},
		{"in pages", 3, func(i int) (string, string) { return numbered(i, 6+i%190), run("w", 239+i*37%2762) }},
		{"greatest and smallest", 2, func(i int) (string, string) {
			if i%5 > 0 {
				return string([]byte{byte(i >> 8), byte(i)}), ""
			}
			return string([]byte{byte(i >> 8), byte(i)}) + run("k", 198), run("v", 38)
		}},
		{"sizes that rise", 3, func(i int) (string, string) {
			return string([]byte{byte(i >> 8), byte(i)}) + run("k", i*7%198), run("v", i*11%39)
		}},
		{"beginnings of others", 3, func(i int) (string, string) {
			return run(string([]byte{byte(i / 199)}), 1+i%199), run("v", i%40)
		}},
	}
}

// P13: trees of all kinds of entries grow by several levels and shrink to an empty root again, in all orders; behind each change they are as the document says.
func TestGrowAndShrink(t *testing.T) {
	all := orders()
	for i, k := range builds() {
		for j, in := range all {
			out := all[(i+j)%len(all)]
			t.Run(k.name+", "+in.name+", "+out.name, func(t *testing.T) {
				growAndShrink(t, k, in, out)
			})
		}
	}
}

func growAndShrink(t *testing.T, k build, in, out order) {
	const n = 181
	b := alone(t)
	for i := range n {
		key, v := k.entry(in.at(i, n))
		b.put(t, key, v)
		shaped(t, b)
	}
	if deep := shaped(t, b)[0].deep; deep < k.deep {
		t.Errorf("%d deep", deep)
	}
	b.scan(t, "", "", -1)
	for i := range n {
		key, _ := k.entry(out.at(i, n))
		b.get(t, key)
		b.delete(t, key)
		b.get(t, key)
		shaped(t, b)
	}
	emptied(t, b)
}

// emptied: is nothing left but the root, an empty leaf?
func emptied(t *testing.T, b *book) {
	t.Helper()
	s, e := b.p.Read(b.root)
	is(t, e, api.OK)
	if s != sealed(1, 0) {
		t.Fatal("the root is no empty leaf")
	}
	if free := freePages(t, b.p); free != b.p.Pages()-2 {
		t.Fatalf("%d of %d pages are free", free, b.p.Pages())
	}
	b.scan(t, "", "", -1)
}

// P13: a tree of many entries, which are turned into others of another size, again and again
func TestSizesChange(t *testing.T) {
	b := alone(t)
	r := &reader{script: scripts(1, 40000)[0]}
	for round := range 12 {
		for i := range 150 {
			n := r.below(200)
			b.put(t, numbered(n, 6+n*31%195), run("v", r.size(round)))
			if i%3 == 0 {
				shaped(t, b)
			}
		}
		b.holds(t)
	}
	for _, k := range b.keys() {
		b.delete(t, k)
		shaped(t, b)
	}
	emptied(t, b)
}

// P13: a tree of small entries that is three deep
func TestManySmallEntries(t *testing.T) {
	b := alone(t)
	const n = 9000
	for i := range n {
		k := i * 7919 % n
		b.put(t, string([]byte{byte(k >> 8), byte(k)}), "")
		if i%500 == 0 {
			shaped(t, b)
		}
	}
	if s := shaped(t, b)[0]; s.deep != 3 || s.inner < 3 {
		t.Errorf("%d deep, %d inner nodes", s.deep, s.inner)
	}
	b.scan(t, "", "", -1)
	for i := range n {
		k := i * 7907 % n
		b.delete(t, string([]byte{byte(k >> 8), byte(k)}))
		if i%500 == 0 {
			shaped(t, b)
		}
	}
	emptied(t, b)
}
