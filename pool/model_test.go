package pool_test

import (
	"slices"
	"strconv"
	"testing"

	"relstore/api"
	"relstore/disk"
	"relstore/page"
	"relstore/pool"
	"relstore/wal"
)

// inMemory: a page that a model holds.
type inMemory struct {
	n, pins int
	text    string
	dirty   bool
}

// model of a pool, by the words of the document: lists, and a log over a disk of its own.
type model struct {
	d      *disk.Disk
	l      *wal.Log
	most   int
	made   int
	held   []*inMemory // in order
	turned []int       // pages that were written, made or freed since the last commit
	stat   api.PoolStat
}

func (m *model) open() api.Errno {
	var e api.Errno
	if m.l, e = wal.Open(m.d); e != api.OK {
		return e
	}
	if m.l.Pages() == 0 {
		if e := m.l.Commit(0, first(0), 1); e != api.OK {
			return e
		}
	}
	m.made, m.held, m.turned, m.stat = 0, nil, nil, api.PoolStat{}
	return api.OK
}

func (m *model) pages() int { return m.l.Pages() + m.made }

func (m *model) room() api.Errno {
	if len(m.held) < m.most {
		return api.OK
	}
	for i, h := range m.held {
		if h.pins > 0 {
			continue
		}
		if h.dirty {
			if e := m.l.Append(h.n, h.text); e != api.OK {
				return e
			}
			m.stat.Spills++
		}
		m.held = slices.Delete(m.held, i, i+1)
		return api.OK
	}
	return api.ErrBusy
}

// find a page that is held; nil: it is not.
func (m *model) find(n int) *inMemory {
	for _, h := range m.held {
		if h.n == n {
			return h
		}
	}
	return nil
}

func (m *model) use(n int) (*inMemory, api.Errno) {
	if n < 0 || n > m.pages()-1 {
		return nil, api.ErrMissing
	}
	h := m.find(n)
	if h != nil {
		m.stat.Hits++
		m.held = slices.DeleteFunc(m.held, func(o *inMemory) bool { return o == h })
		m.held = append(m.held, h)
		return h, api.OK
	}
	if e := m.room(); e != api.OK {
		return nil, e
	}
	s, e := m.l.Read(n)
	if e != api.OK {
		return nil, e
	}
	m.stat.Misses++
	h = &inMemory{n: n, text: s}
	m.held = append(m.held, h)
	return h, api.OK
}

// peek at a page as it is now, without its being used.
func (m *model) peek(n int) string {
	if h := m.find(n); h != nil {
		return h.text
	}
	s, _ := m.l.Read(n)
	return s
}

// all pages as they are now.
func (m *model) all() []string {
	l := make([]string, m.pages())
	for n := range l {
		l[n] = m.peek(n)
	}
	return l
}

func (m *model) read(n int) (string, api.Errno) {
	h, e := m.use(n)
	if e != api.OK {
		return "", e
	}
	return h.text, api.OK
}

func (m *model) pin(n int) api.Errno {
	h, e := m.use(n)
	if e == api.OK {
		h.pins++
	}
	return e
}

func (m *model) unpin(n int) api.Errno {
	h := m.find(n)
	if h == nil || h.pins < 1 {
		return api.ErrState
	}
	h.pins--
	return api.OK
}

func (m *model) turn(h *inMemory, text string) {
	h.text, h.dirty = text, true
	m.turned = append(m.turned, h.n)
}

func (m *model) write(n int, s string) api.Errno {
	if n == 0 || len(s) != 1024 {
		return api.ErrArg
	}
	h, e := m.use(n)
	if e == api.OK {
		m.turn(h, s)
	}
	return e
}

// firstFree page, which page 0 tells.
func (m *model) firstFree() int {
	x, _ := page.Open(m.peek(0))
	return x.Link
}

// link page 0: it is used twice.
func (m *model) link(n int) api.Errno {
	if _, e := m.use(0); e != api.OK {
		return e
	}
	h, e := m.use(0)
	if e != api.OK {
		return e
	}
	x, _ := page.Open(h.text)
	m.turn(h, sealed(x.Kind, n, x.Cells...))
	return api.OK
}

func (m *model) alloc() (int, api.Errno) {
	n := m.firstFree()
	if n == 0 {
		return m.make()
	}
	h, e := m.use(n)
	if e != api.OK {
		return 0, e
	}
	x, e := page.Open(h.text)
	if e != api.OK {
		return 0, e
	}
	if e := m.link(x.Link); e != api.OK {
		return 0, e
	}
	if h, e = m.use(n); e != api.OK {
		return 0, e
	}
	m.turn(h, sealed(x.Kind, 0))
	return n, api.OK
}

func (m *model) make() (int, api.Errno) {
	n := m.pages()
	if 1024*(n+1) > 67108864 {
		return 0, api.ErrLarge
	}
	if e := m.room(); e != api.OK {
		return 0, e
	}
	h := &inMemory{n: n}
	m.held = append(m.held, h)
	m.turn(h, free(0))
	m.made++
	return n, api.OK
}

func (m *model) free(n int) api.Errno {
	if n == 0 {
		return api.ErrArg
	}
	h, e := m.use(n)
	if e != api.OK {
		return e
	}
	m.turn(h, free(m.firstFree()))
	return m.link(n)
}

func (m *model) commit() api.Errno {
	if len(m.turned) == 0 {
		return api.OK
	}
	var dirty []*inMemory
	for n := range m.pages() {
		if h := m.find(n); h != nil && h.dirty {
			dirty = append(dirty, h)
		}
	}
	if len(dirty) == 0 {
		h, e := m.use(0)
		if e != api.OK {
			return e
		}
		dirty = append(dirty, h)
	}
	for len(dirty) > 1 {
		if e := m.l.Append(dirty[0].n, dirty[0].text); e != api.OK {
			return e
		}
		dirty[0].dirty = false
		dirty = dirty[1:]
	}
	if e := m.l.Commit(dirty[0].n, dirty[0].text, m.pages()); e != api.OK {
		return e
	}
	dirty[0].dirty, m.turned, m.made = false, nil, 0
	if m.l.Frames() >= 1000 {
		return m.l.Checkpoint()
	}
	return api.OK
}

func (m *model) rollback() api.Errno {
	for _, h := range m.held {
		if h.pins > 0 {
			return api.ErrBusy
		}
	}
	m.l.Back()
	m.held = slices.DeleteFunc(m.held, func(h *inMemory) bool { return slices.Contains(m.turned, h.n) })
	m.turned, m.made = nil, 0
	_, e := m.use(0)
	return e
}

func (m *model) checkpoint() api.Errno {
	if len(m.turned) > 0 {
		return api.ErrState
	}
	return m.l.Checkpoint()
}

// order of the pages that are held.
func (m *model) order() []int {
	var l []int
	for _, h := range m.held {
		l = append(l, h.n)
	}
	return l
}

// pair: a pool and its model; and the pages of the last commit.
type pair struct {
	d         *disk.Disk
	p         *pool.Pool
	m         *model
	committed []string
	coming    []string // those of a commit that has met an error
	looked    int      // how many operations were done when the files were looked at
}

// couple over two disks that are the same.
func couple(t *testing.T, pages, log string, most int) *pair {
	t.Helper()
	return &pair{d: laid(t, pages, log), m: &model{d: laid(t, pages, log), most: most}}
}

// open both; is the answer the same, and are the pages those of the last commit?
func (p *pair) open(t *testing.T) {
	t.Helper()
	want := p.m.open()
	q, e := pool.Open(p.d, p.m.most)
	is(t, e, want)
	if (q == nil) != (e != api.OK) {
		t.Fatalf("Open: %v beside %v", q, e)
	}
	p.p = q
	if e != api.OK {
		return
	}
	l := p.m.all()
	if p.committed != nil && !slices.Equal(l, p.committed) && (p.coming == nil || !slices.Equal(l, p.coming)) {
		t.Fatalf("%d pages, not those of the last commit", len(l))
	}
	p.committed, p.coming = l, nil
}

// commit both.
func (p *pair) commit(t *testing.T) {
	t.Helper()
	l := p.m.all()
	e := p.p.Commit()
	is(t, e, p.m.commit())
	if e == api.OK {
		p.committed = l
	} else {
		p.coming = l
	}
}

// crash both.
func (p *pair) crash(keep []int) {
	p.m.d.Crash(keep)
	p.d.Crash(keep)
	p.looked = -1
}

// fail both behind so many operations.
func (p *pair) fail(n int) {
	p.d.Fail(n)
	p.m.d.Fail(n)
}

// raise what is down: it crashes, and is opened, maybe with a crash in the opening.
func (p *pair) raise(t *testing.T, r *reader) {
	t.Helper()
	for p.d.Down() {
		p.crash(r.keep())
		p.fail(r.below(9) - 1)
		p.open(t)
	}
}

// agree: does all that is promised agree?
func (p *pair) agree(t *testing.T) {
	t.Helper()
	if p.d.Down() != p.m.d.Down() || p.d.Count() != p.m.d.Count() || p.d.Waits() != p.m.d.Waits() {
		t.Fatalf("down %v, %d operations, %d wait; want %v, %d, %d", p.d.Down(), p.d.Count(), p.d.Waits(), p.m.d.Down(), p.m.d.Count(), p.m.d.Waits())
	}
	if p.d.Down() {
		return
	}
	shows(t, p.p, p.m.pages(), p.m.l.Frames(), p.m.stat, p.m.order()...)
	if p.looked == p.d.Count() {
		return
	}
	p.looked = p.d.Count()
	has(t, p.d, fileOf(t, p.m.d, 0), fileOf(t, p.m.d, 1))
}

// agreeOnAll pages; pins are taken off, so that all can be used.
func (p *pair) agreeOnAll(t *testing.T) {
	t.Helper()
	for n := range p.m.pages() {
		for p.m.unpin(n) == api.OK {
			is(t, p.p.Unpin(n), api.OK)
		}
		is(t, p.p.Unpin(n), api.ErrState)
	}
	for n := range p.m.pages() {
		p.read(t, n)
		p.agree(t)
	}
}

// read a page of both.
func (p *pair) read(t *testing.T, n int) {
	t.Helper()
	want, f := p.m.read(n)
	if s, e := p.p.Read(n); s != want || e != f {
		t.Fatalf("page %d: %s, %v; want %s, %v", n, short(s), e, short(want), f)
	}
}

// alloc a page of both.
func (p *pair) alloc(t *testing.T) {
	t.Helper()
	want, f := p.m.alloc()
	if n, e := p.p.Alloc(); n != want || e != f {
		t.Fatalf("Alloc: %d, %v; want %d, %v", n, e, want, f)
	}
}

// reader hands out numbers of a script; zeros behind its end.
type reader struct {
	script []byte
	texts  int
}

func (r *reader) below(n int) int {
	if len(r.script) == 0 {
		return 0
	}
	b := r.script[0]
	r.script = r.script[1:]
	return int(b) % n
}

// page: a number, seldom a wrong one.
func (r *reader) page(pages int) int {
	n := r.below(32)
	if n == 31 {
		return []int{-1, pages, 1 << 40}[r.below(3)]
	}
	return n % pages
}

// text that was not there before, seldom one that is no page's.
func (r *reader) text(pages int) string {
	r.texts++
	switch r.below(16) {
	case 13:
		return sheet("")[r.below(2)*512:] + "x"
	case 14:
		return sealed(3, r.below(pages+1))
	case 15:
		return sealed(r.below(5)+1, r.below(pages+1), strconv.Itoa(r.texts))
	}
	return sheet(strconv.Itoa(r.texts))
}

func (r *reader) keep() []int {
	l := make([]int, r.below(6))
	for i := range l {
		l[i] = r.below(3)
	}
	return l
}

// step: one call of both, that the script tells.
func (p *pair) step(t *testing.T, r *reader) {
	t.Helper()
	switch r.below(32) {
	case 0, 1, 2, 3, 4, 5:
		p.read(t, r.page(p.m.pages()))
	case 6, 7, 8:
		n := r.page(p.m.pages())
		is(t, p.p.Pin(n), p.m.pin(n))
	case 9, 10, 11:
		n := r.page(p.m.pages())
		is(t, p.p.Unpin(n), p.m.unpin(n))
	case 12, 13, 14, 15, 16:
		n, s := r.page(p.m.pages()), r.text(p.m.pages())
		is(t, p.p.Write(n, s), p.m.write(n, s))
	case 17, 18, 19, 20:
		p.alloc(t)
	case 21, 22, 23:
		n := r.page(p.m.pages())
		is(t, p.p.Free(n), p.m.free(n))
	case 24, 25, 26:
		p.commit(t)
	case 27:
		is(t, p.p.Rollback(), p.m.rollback())
	case 28:
		is(t, p.p.Checkpoint(), p.m.checkpoint())
	case 29, 30:
		p.fail(r.below(12) - 1)
	case 31:
		p.crash(r.keep())
		p.open(t)
	}
}

// play a script on a pool and on its model.
func play(t *testing.T, p *pair, script []byte) {
	t.Helper()
	r := &reader{script: script}
	p.fail(r.below(16) - 1)
	p.open(t)
	for len(r.script) > 0 {
		p.raise(t, r)
		p.agree(t)
		p.step(t, r)
	}
	p.raise(t, &reader{})
	p.agree(t)
	p.agreeOnAll(t)
	p.crash(nil)
	p.open(t)
	p.agreeOnAll(t)
}

// scripts: so many of so many bytes.
func scripts(number, size int) [][]byte {
	seed := uint32(1)
	var l [][]byte
	for range number {
		s := make([]byte, size)
		for i := range s {
			seed = seed*1664525 + 1013904223
			s[i] = byte(seed >> 24)
		}
		l = append(l, s)
	}
	return l
}

// P12: all calls, one behind the other; files, operations and answers are those of the document.
func TestScripts(t *testing.T) {
	for i, s := range scripts(600, 400) {
		switch i % 4 {
		case 0:
			play(t, couple(t, "", "", 8), s)
		case 1:
			play(t, couple(t, placed(11), mark+slot(2, 0, 11), 8), s)
		case 2:
			play(t, couple(t, placed(20), "", 9+i%7), s)
		case 3:
			play(t, couple(t, first(2)+sheet("1")+free(4)+sheet("3")+free(0)+placed(10)[1024:], "", 8), s)
		}
	}
}

// P12: likewise, with a log that is near to 1,000 frames
func TestScriptsOverAFullLog(t *testing.T) {
	for i, s := range scripts(40, 200) {
		log := logged(970 + i)
		play(t, couple(t, placed(20), mark+slot(1, 970+i, 20)+log[40:], 8), s)
	}
}

// P12: scripts that a search finds
func FuzzScript(f *testing.F) {
	f.Add(0, []byte("\x00\x11\x11\x11\x0c\x01\x01\x18\x15\x01\x11\x1b\x18"))
	f.Add(12, []byte("\x00\x0c\x01\x01\x00\x02\x00\x03\x00\x04\x00\x05\x00\x06\x00\x07\x00\x08\x00\x09\x18\x1f\x00"))
	f.Fuzz(func(t *testing.T, n int, script []byte) {
		pages := ""
		if n > 0 {
			pages = placed(n%100 + 1)
		}
		play(t, couple(t, pages, "", 8), script)
	})
}
