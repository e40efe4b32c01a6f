package wal_test

import (
	"slices"
	"strconv"
	"testing"

	"relstore/api"
	"relstore/disk"
	"relstore/wal"
)

// held: a page in a frame.
type held struct {
	n    int
	text string
}

// state of a log, as its last commit tells it; number 0: there is none.
type state struct {
	number, slot, pages int
	frames              []held
}

// model of a log, by the words of the document: it does on a disk of its own what a log has to do there.
type model struct {
	d        *disk.Disk
	last     state
	coming   state // a commit that is being told: number 0: there is none
	appended []held
}

// first error of steps, which are done up to it.
func first(steps ...func() api.Errno) api.Errno {
	for _, s := range steps {
		if e := s(); e != api.OK {
			return e
		}
	}
	return api.OK
}

func (m *model) write(f, at int, s string) func() api.Errno {
	return func() api.Errno { return m.d.Write(f, at, s) }
}

func (m *model) cut(f, size int) func() api.Errno {
	return func() api.Errno { return m.d.Cut(f, size) }
}

func (m *model) sync(f int) func() api.Errno {
	return func() api.Errno { return m.d.Sync(f) }
}

// comes: a commit is written, but not synced yet.
func (m *model) comes(s state) func() api.Errno {
	return func() api.Errno { m.coming = s; return api.OK }
}

// came: it lasts.
func (m *model) came() api.Errno {
	m.last, m.coming, m.appended = m.coming, state{}, nil
	return api.OK
}

func (m *model) open() api.Errno {
	m.appended = nil
	if m.last.number > 0 {
		if m.d.Down() {
			return api.ErrDown
		}
		return api.OK
	}
	size, e := m.d.Size(0)
	if e != api.OK {
		return e
	}
	s := state{number: 1, pages: size / 1024}
	return first(m.cut(1, 0), m.sync(1), m.write(1, 0, mark+slot(1, 0, s.pages)), m.comes(s), m.sync(1), m.came)
}

// tell a commit.
func (m *model) tell(frames []held, pages int) api.Errno {
	s := state{number: m.last.number%3 + 1, slot: 1 - m.last.slot, pages: pages, frames: frames}
	return first(m.write(1, 16+24*s.slot, slot(s.number, len(frames), pages)), m.comes(s), m.sync(1), m.came)
}

// all frames that count.
func (m *model) all() []held { return slices.Concat(m.last.frames, m.appended) }

func (m *model) append(n int, text string) api.Errno {
	if n < 0 || n > 2147483647 || len(text) != 1024 {
		return api.ErrArg
	}
	e := m.d.Write(1, 64+1028*len(m.all()), four(n)+text)
	if e == api.OK {
		m.appended = append(m.appended, held{n, text})
	}
	return e
}

func (m *model) commit(n int, text string, pages int) api.Errno {
	if pages < 1 || pages > 65536 {
		return api.ErrArg
	}
	return first(
		func() api.Errno { return m.append(n, text) },
		m.sync(1),
		func() api.Errno { return m.tell(m.all(), pages) },
	)
}

func (m *model) checkpoint() api.Errno {
	if len(m.appended) > 0 {
		return api.ErrState
	}
	if len(m.last.frames) == 0 {
		return api.OK
	}
	var steps []func() api.Errno
	for n := range m.last.pages {
		if text := newest(m.last.frames, n); text != "" {
			steps = append(steps, m.write(0, 1024*n, text))
		}
	}
	steps = append(steps, m.cut(0, 1024*m.last.pages), m.sync(0))
	return first(append(steps, func() api.Errno { return m.tell(nil, m.last.pages) })...)
}

// newest text of a page in frames; "": it is in none.
func newest(frames []held, n int) string {
	for _, h := range slices.Backward(frames) {
		if h.n == n {
			return h.text
		}
	}
	return ""
}

func (m *model) read(n int) (string, api.Errno) {
	if n < 0 || n > 2147483647 {
		return "", api.ErrArg
	}
	if m.d.Down() {
		return "", api.ErrDown
	}
	if text := newest(m.all(), n); text != "" {
		return text, api.OK
	}
	if size, _ := m.d.Size(0); n >= size/1024 {
		return "", api.ErrMissing
	}
	return m.d.Read(0, 1024*n, 1024)
}

// crash: the last commit stays, or that which was being told comes, if its slot is kept whole.
func (m *model) crash(keep []int) {
	slot := m.d.Waits() - 1 // behind frames that Back forgot
	if m.coming.number > 0 && len(keep) > 0 && keep[slot%len(keep)] == 1 {
		m.last = m.coming
	}
	m.coming, m.appended = state{}, nil
	m.d.Crash(keep)
}

// pair: a log and its model.
type pair struct {
	d *disk.Disk
	l *wal.Log
	m *model
}

// couple over two disks that are the same.
func couple(t *testing.T, pages string) *pair {
	t.Helper()
	return &pair{d: laid(t, pages, ""), m: &model{d: laid(t, pages, "")}}
}

// open both; is the answer the same?
func (p *pair) open(t *testing.T) api.Errno {
	t.Helper()
	want := p.m.open()
	l, e := wal.Open(p.d)
	is(t, e, want)
	if (l == nil) != (e != api.OK) {
		t.Fatalf("Open: %v beside %v", l, e)
	}
	p.l = l
	return e
}

// crash both.
func (p *pair) crash(t *testing.T, keep []int) {
	t.Helper()
	p.m.crash(keep)
	p.d.Crash(keep)
	has(t, p.d, fileOf(t, p.m.d, 0), fileOf(t, p.m.d, 1))
}

// fail both behind so many operations.
func (p *pair) fail(n int) {
	p.d.Fail(n)
	p.m.d.Fail(n)
}

// agree: does all that is promised agree?
func (p *pair) agree(t *testing.T) {
	t.Helper()
	if p.d.Down() != p.m.d.Down() || p.d.Count() != p.m.d.Count() || p.d.Waits() != p.m.d.Waits() {
		t.Fatalf("down %v, %d operations, %d wait; want %v, %d, %d", p.d.Down(), p.d.Count(), p.d.Waits(), p.m.d.Down(), p.m.d.Count(), p.m.d.Waits())
	}
	if p.d.Down() {
		return
	}
	has(t, p.d, fileOf(t, p.m.d, 0), fileOf(t, p.m.d, 1))
	tells(t, p.l, p.d, p.m.last.pages, len(p.m.all()), p.m.d.Count(), p.m.d.Waits())
	for _, n := range []int{-1, 0, 1, 2, 3, 4, 5, 6, 7, 2147483647, 2147483648} {
		want, f := p.m.read(n)
		if s, e := p.l.Read(n); s != want || e != f {
			t.Fatalf("page %d: %s, %v; want %s, %v", n, short(s), e, short(want), f)
		}
	}
}

// reader hands out numbers of a script; zeros behind its end.
type reader struct {
	script []byte
	pages  int
}

func (r *reader) below(n int) int {
	if len(r.script) == 0 {
		return 0
	}
	b := r.script[0]
	r.script = r.script[1:]
	return int(b) % n
}

// page: a number, seldom a wrong one, and a text that was not there before, seldom one that is no page.
func (r *reader) page() (int, string) {
	r.pages++
	n, text := r.below(12), sheet(strconv.Itoa(r.pages))
	switch {
	case n == 9:
		n = 2147483647
	case n == 10:
		n = []int{-1, 2147483648}[r.below(2)]
	case n == 11:
		n, text = 0, []string{"", text[1:], text + "."}[r.below(3)]
	}
	return n, text
}

func (r *reader) count() int {
	n := r.below(16)
	switch {
	case n == 14:
		return 0
	case n == 15:
		return []int{-1, 65537}[r.below(2)]
	}
	return n%7 + 1
}

func (r *reader) keep() []int {
	l := make([]int, r.below(6))
	for i := range l {
		l[i] = r.below(3)
	}
	return l
}

// step: one call of both, that the script tells.
func (p *pair) step(t *testing.T, r *reader) {
	t.Helper()
	switch r.below(16) {
	case 0, 1, 2, 3:
		n, text := r.page()
		is(t, p.l.Append(n, text), p.m.append(n, text))
	case 4, 5, 6, 7:
		n, text := r.page()
		pages := r.count()
		is(t, p.l.Commit(n, text, pages), p.m.commit(n, text, pages))
	case 8, 9:
		p.l.Back()
		p.m.appended = nil
	case 10, 11:
		is(t, p.l.Checkpoint(), p.m.checkpoint())
	case 12:
		p.open(t)
	case 13, 14:
		p.fail(r.below(9) - 1)
	case 15:
		p.crash(t, r.keep())
		p.open(t)
	}
}

// raise what is down: it crashes, and is opened, maybe with a crash in the opening.
func (p *pair) raise(t *testing.T, r *reader) {
	t.Helper()
	for p.d.Down() {
		p.crash(t, r.keep())
		p.fail(r.below(5) - 1)
		p.open(t)
	}
}

// play a script on a log and on its model.
func play(t *testing.T, script []byte) {
	t.Helper()
	r := &reader{script: script}
	p := couple(t, sheet("zero")+sheet("one")+sheet("two")[:r.below(3)*1000/2])
	p.fail(r.below(8) - 1)
	p.open(t)
	for len(r.script) > 0 {
		p.raise(t, r)
		p.agree(t)
		p.step(t, r)
	}
	p.raise(t, &reader{})
	p.agree(t)
	p.crash(t, nil)
	p.open(t)
	p.agree(t)
}

// scripts: so many of so many bytes.
func scripts(number, size int) [][]byte {
	seed := uint32(1)
	var l [][]byte
	for range number {
		s := make([]byte, size)
		for i := range s {
			seed = seed*1664525 + 1013904223
			s[i] = byte(seed >> 24)
		}
		l = append(l, s)
	}
	return l
}

// P11: all calls, one behind the other; files, operations and answers are those of the document.
func TestScripts(t *testing.T) {
	for _, s := range scripts(1500, 200) {
		play(t, s)
	}
}

// P11: scripts that a search finds
func FuzzScript(f *testing.F) {
	f.Add([]byte("\x00\x00\x04\x01\x02\x0a\x04\x03\x05\x0d\x02\x04\x01\x03"))
	f.Fuzz(play)
}
