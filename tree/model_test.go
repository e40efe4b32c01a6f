package tree_test

import (
	"testing"

	"relstore/api"
	"relstore/disk"
	"relstore/tree"
)

// reader hands out numbers of a script; zeros behind its end.
type reader struct{ script []byte }

func (r *reader) below(n int) int {
	if len(r.script) == 0 {
		return 0
	}
	b := int(r.script[0])
	if n > 256 && len(r.script) > 1 {
		r.script = r.script[1:]
		b = b<<8 | int(r.script[0])
	}
	r.script = r.script[1:]
	return b % n
}

// size of a value: mostly small, or near to an edge.
func (r *reader) size(kind int) int {
	switch kind % 4 {
	case 0:
		return r.below(40)
	case 1:
		return r.below(240)
	case 2:
		return []int{0, 1, 37, 38, 39, 40, 231, 232, 233, 238, 1008, 1009, 2016, 2017, 2999, 3000}[r.below(16)]
	}
	return r.below(2) * r.below(3001)
}

// key: out of not too many, so that they meet again.
func (r *reader) key() string {
	n := r.below(64)
	head := string([]byte{byte([]int{0, 1, 'a', 'k', 254, 255}[n%6])})
	switch r.below(4) {
	case 0:
		return head + run("k", n*3)
	case 1:
		return run("k", 1+n*199/63)
	case 2:
		return numbered(n, 200)
	}
	return numbered(n, 6)
}

// bound of a range: a key, a part of one, or more than one.
func (r *reader) bound() string {
	k := r.key()
	switch r.below(4) {
	case 0:
		return ""
	case 1:
		return k + k
	case 2:
		return k[:len(k)/2]
	}
	return k
}

// shelf: two books over one pool, and what was committed.
type shelf struct {
	d         *disk.Disk
	books     []*book
	committed []map[string]string
}

// stood: a shelf over a new disk, whose empty trees were committed.
func stood(t *testing.T) *shelf {
	t.Helper()
	d := disk.New()
	p := opened(t, d, 8)
	s := &shelf{d: d, books: []*book{begun(t, p), begun(t, p)}}
	s.commit(t)
	return s
}

func (s *shelf) commit(t *testing.T) {
	t.Helper()
	is(t, s.books[0].p.Commit(), api.OK)
	s.committed = nil
	for _, b := range s.books {
		s.committed = append(s.committed, b.copy())
	}
}

// again: the trees are as they were committed.
func (s *shelf) again() {
	for i, b := range s.books {
		b.want = s.committed[i]
		s.committed[i] = b.copy()
	}
}

// reopen the pool over its disk.
func (s *shelf) reopen(t *testing.T, most int) {
	t.Helper()
	s.again()
	p := opened(t, s.d, most)
	for _, b := range s.books {
		b.p, b.x = p, tree.Open(p, b.root)
	}
}

// step: one call that the script tells.
func (s *shelf) step(t *testing.T, r *reader) {
	t.Helper()
	b := s.books[r.below(2)]
	switch r.below(32) {
	case 0, 1, 2, 3, 4, 5, 6, 7, 8, 9, 10, 11, 12, 13:
		b.put(t, r.key(), run("v", r.size(r.below(4))))
	case 14, 15, 16, 17, 18:
		b.delete(t, r.key())
	case 19, 20, 21, 22:
		if l := b.keys(); len(l) > 0 {
			b.delete(t, l[r.below(len(l))])
		}
	case 23:
		b.get(t, r.key())
	case 24, 25, 26:
		b.scan(t, r.bound(), r.bound(), r.below(12)-2)
	case 27, 28:
		s.commit(t)
	case 29:
		is(t, b.p.Rollback(), api.OK)
		s.again()
	case 30:
		s.d.Crash([]int{r.below(3), r.below(3)})
		s.reopen(t, 8+r.below(8))
	case 31:
		s.shrink(t, b, r)
	}
}

// shrink a tree: a range of it goes, or it is dropped and made again.
func (s *shelf) shrink(t *testing.T, b *book, r *reader) {
	t.Helper()
	from, to := r.bound(), r.bound()
	for _, x := range b.between(from, to) {
		b.delete(t, x.Key)
	}
	if r.below(4) > 0 {
		return
	}
	is(t, b.x.Drop(), api.OK)
	*b = *begun(t, b.p)
	s.commit(t)
}

// play a script on two trees.
func play(t *testing.T, script []byte) {
	t.Helper()
	s := stood(t)
	r := &reader{script: script}
	for len(r.script) > 0 {
		s.step(t, r)
		shaped(t, s.books...)
	}
	for _, b := range s.books {
		b.scan(t, "", "", -1)
	}
	s.commit(t)
	s.d.Crash(nil)
	s.reopen(t, 8)
	shaped(t, s.books...)
	for _, b := range s.books {
		for _, k := range b.keys() {
			b.get(t, k)
		}
	}
}

// scripts: so many of so many bytes.
func scripts(number, size int) [][]byte {
	seed := uint32(1)
	var l [][]byte
	for range number {
		s := make([]byte, size)
		for i := range s {
			seed = seed*1664525 + 1013904223
			s[i] = byte(seed >> 24)
		}
		l = append(l, s)
	}
	return l
}

// P13: all calls, one behind the other, on two trees of one pool; each one is an ordered map, and lies in its pages as the document says.
func TestScripts(t *testing.T) {
	for _, s := range scripts(40, 1200) {
		play(t, s)
	}
}

// P13: scripts that a search finds
func FuzzScript(f *testing.F) {
	f.Add([]byte("\x00\x00\x07\x02\x02\x0f\x00\x01\x08\x03\x01\x20\x01\x17\x08\x03"))
	f.Add(scripts(1, 300)[0])
	f.Fuzz(func(t *testing.T, script []byte) { play(t, script) })
}
