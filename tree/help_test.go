package tree_test

import (
	"maps"
	"slices"
	"strconv"
	"strings"
	"testing"

	"relstore/api"
	"relstore/disk"
	"relstore/page"
	"relstore/pool"
	"relstore/tree"
)

const mark = "relstore log 001"

// run: a text of so many bytes.
func run(s string, n int) string { return strings.Repeat(s, n) }

// numbered: a text of so many bytes that begins with a number.
func numbered(n, size int) string {
	s := strconv.Itoa(100000 + n)
	return s + run(".", size-len(s))
}

// four bytes of a number.
func four(n int) string {
	return string([]byte{byte(n >> 24), byte(n >> 16), byte(n >> 8), byte(n)})
}

// slot of a commit.
func slot(number, frames, pages int) string {
	half := four(number) + four(frames) + four(pages)
	return half + half
}

// keyed: a key, as a cell begins with it.
func keyed(key string) string { return string([]byte{byte(len(key))}) + key }

// inline: the cell of an entry with its value.
func inline(key, value string) string { return keyed(key) + "\x00" + value }

// long: the cell of an entry whose value stands elsewhere.
func long(key string, size, number int) string {
	return keyed(key) + "\x01" + four(size)[2:] + four(number)
}

// child: the cell of one.
func child(key string, number int) string { return keyed(key) + four(number) }

// sealed: the bytes of a page that may be.
func sealed(kind, link int, cells ...string) string {
	s, e := page.Seal(api.Page{Kind: kind, Link: link, Cells: cells})
	if e != api.OK {
		panic(e)
	}
	return s
}

// is: was this the answer?
func is(t *testing.T, e, want api.Errno) {
	t.Helper()
	if e != want {
		t.Fatalf("answer %v, want %v", e, want)
	}
}

// short form of a text.
func short(s string) string {
	if len(s) > 60 {
		return strconv.Quote(s[:30]) + " .. (" + strconv.Itoa(len(s)) + " bytes)"
	}
	return strconv.Quote(s)
}

// opened: a pool that must be opened.
func opened(t *testing.T, d *disk.Disk, most int) *pool.Pool {
	t.Helper()
	p, e := pool.Open(d, most)
	is(t, e, api.OK)
	return p
}

// laid: a pool over a disk on which these pages last, behind page 0, of which this is the first free one.
func laid(t *testing.T, free int, pages ...string) *pool.Pool {
	t.Helper()
	d := disk.New()
	is(t, d.Write(0, 0, sealed(4, free)+strings.Join(pages, "")), api.OK)
	is(t, d.Write(1, 0, mark+slot(1, 0, 1+len(pages))), api.OK)
	is(t, d.Sync(0), api.OK)
	is(t, d.Sync(1), api.OK)
	return opened(t, d, 8)
}

// created: the root of a tree that must be made.
func created(t *testing.T, p *pool.Pool) int {
	t.Helper()
	n, e := tree.Create(p)
	if e != api.OK || n < 1 {
		t.Fatalf("Create: %d, %v", n, e)
	}
	return n
}

// book: a tree, and what must be in it.
type book struct {
	p    *pool.Pool
	root int
	x    *tree.Tree
	want map[string]string
}

// begun: a book over a new tree of a pool.
func begun(t *testing.T, p *pool.Pool) *book {
	t.Helper()
	n := created(t, p)
	return &book{p, n, tree.Open(p, n), map[string]string{}}
}

// alone: a book over a new pool.
func alone(t *testing.T) *book {
	t.Helper()
	return begun(t, opened(t, disk.New(), 8))
}

// put a value under a key.
func (b *book) put(t *testing.T, key, value string) {
	t.Helper()
	if e := b.x.Put(key, value); e != api.OK {
		t.Fatalf("Put(%s, %s): %v", short(key), short(value), e)
	}
	b.want[key] = value
}

// delete a key, which may be there or not.
func (b *book) delete(t *testing.T, key string) {
	t.Helper()
	_, want := b.want[key]
	if ok, e := b.x.Delete(key); ok != want || e != api.OK {
		t.Fatalf("Delete(%s): %v, %v; want %v", short(key), ok, e, want)
	}
	delete(b.want, key)
}

// get a key, which may be there or not.
func (b *book) get(t *testing.T, key string) {
	t.Helper()
	want, there := b.want[key]
	if v, ok, e := b.x.Get(key); v != want || ok != there || e != api.OK {
		t.Fatalf("Get(%s): %s, %v, %v; want %s, %v", short(key), short(v), ok, e, short(want), there)
	}
}

// keys that must be there, in order.
func (b *book) keys() []string { return slices.Sorted(maps.Keys(b.want)) }

// range of entries that must be there.
func (b *book) between(from, to string) []api.Entry {
	var l []api.Entry
	for _, k := range b.keys() {
		if k >= from && (to == "" || k < to) {
			l = append(l, api.Entry{Key: k, Value: b.want[k]})
		}
	}
	return l
}

// first entries of a list, at most so many (below 0: all).
func first(l []api.Entry, most int) []api.Entry {
	if most >= 0 && most < len(l) {
		return l[:most]
	}
	return l
}

// scan a range forwards and backwards.
func (b *book) scan(t *testing.T, from, to string, most int) {
	t.Helper()
	all := b.between(from, to)
	want := first(all, most)
	if l, e := b.x.Scan(from, to, most); e != api.OK || !slices.Equal(l, want) {
		t.Fatalf("Scan(%s, %s, %d): %s, %v; want %s", short(from), short(to), most, told(l), e, told(want))
	}
	slices.Reverse(all)
	want = first(all, most)
	if l, e := b.x.Back(from, to, most); e != api.OK || !slices.Equal(l, want) {
		t.Fatalf("Back(%s, %s, %d): %s, %v; want %s", short(from), short(to), most, told(l), e, told(want))
	}
}

// told: entries in short form.
func told(l []api.Entry) string {
	s := strconv.Itoa(len(l)) + " entries"
	for _, x := range first(l, 20) {
		s += " " + short(x.Key) + "=" + short(x.Value)
	}
	return s
}

// copy of what must be there.
func (b *book) copy() map[string]string { return maps.Clone(b.want) }

// holds: is all there that must be, and nothing else, by all ways of asking, in a pool that is as the document says?
func (b *book) holds(t *testing.T) {
	t.Helper()
	shaped(t, b)
	b.scan(t, "", "", -1)
	for k := range b.want {
		b.get(t, k)
	}
}
