package disk_test

import (
	"strings"
	"testing"

	"relstore/api"
	"relstore/disk"
)

// model of a disk, by the words of the document: what lasts, what waits, and nothing else.
type model struct {
	lasts [2]string
	waits []step
	left  int
	count int
	down  bool
}

// step: a write, or a cut (of size at).
type step struct {
	f, at int
	s     string
	cut   bool
}

// upon: the file that a step leaves of a file.
func (w step) upon(file string) string {
	if len(file) < w.at {
		file += strings.Repeat("\x00", w.at-len(file))
	}
	behind := ""
	if !w.cut && len(file) > w.at+len(w.s) {
		behind = file[w.at+len(w.s):]
	}
	return file[:w.at] + w.s + behind
}

// file as it is seen.
func (m *model) file(f int) string {
	file := m.lasts[f]
	for _, w := range m.waits {
		if w.f == f {
			file = w.upon(file)
		}
	}
	return file
}

// operation: does it come about?
func (m *model) operation() api.Errno {
	if m.down || m.left == 0 {
		m.down = true
		return api.ErrDown
	}
	m.left--
	m.count++
	return api.OK
}

// turn a file.
func (m *model) turn(w step) api.Errno {
	e := m.operation()
	if e == api.OK {
		m.waits = append(m.waits, w)
	}
	return e
}

// sync a file.
func (m *model) sync(f int) api.Errno {
	e := m.operation()
	if e == api.OK {
		m.lasts[f] = m.file(f)
		var waits []step
		for _, w := range m.waits {
			if w.f != f {
				waits = append(waits, w)
			}
		}
		m.waits = waits
	}
	return e
}

// crash it.
func (m *model) crash(keep []int) {
	for i, w := range m.waits {
		how := 0
		if len(keep) > 0 {
			how = keep[i%len(keep)]
		}
		if how == 2 {
			w.s = w.s[:len(w.s)/2]
		}
		if how == 1 || how == 2 {
			m.lasts[w.f] = w.upon(m.lasts[w.f])
		}
	}
	m.waits, m.left, m.down = nil, -1, false
}

// reader hands out numbers of a script; zeros behind its end.
type reader struct{ script []byte }

func (r *reader) below(n int) int {
	if len(r.script) == 0 {
		return 0
	}
	b := r.script[0]
	r.script = r.script[1:]
	return int(b) % n
}

// text of so many bytes, none of them zero, so that zeros stand out.
func (r *reader) text(n int) string {
	b := make([]byte, n)
	for i := range b {
		b[i] = 'a' + byte(r.below(26))
	}
	return string(b)
}

func (r *reader) keep() []int {
	l := make([]int, r.below(6))
	for i := range l {
		l[i] = r.below(5) - 1
	}
	return l
}

// agree: does a disk tell what the model tells?
func agree(t *testing.T, d *disk.Disk, m *model) {
	t.Helper()
	tells(t, d, m.count, len(m.waits), m.down)
	if !m.down {
		has(t, d, m.file(0), m.file(1))
	}
}

// play a script on a disk and on the model.
func play(t *testing.T, script []byte) {
	t.Helper()
	d, m, r := disk.New(), &model{left: -1}, &reader{script}
	for len(r.script) > 0 {
		f := r.below(2)
		switch r.below(12) {
		case 0, 1, 2, 3, 4:
			w := step{f: f, at: r.below(20)}
			w.s = r.text(r.below(12))
			is(t, d.Write(f, w.at, w.s), m.turn(w))
		case 5, 6, 7:
			w := step{f: f, at: r.below(25), cut: true}
			is(t, d.Cut(f, w.at), m.turn(w))
		case 8, 9:
			is(t, d.Sync(f), m.sync(f))
		case 10:
			n := r.below(9) - 2
			d.Fail(n)
			m.left = n
		case 11:
			keep := r.keep()
			d.Crash(keep)
			m.crash(keep)
		}
		agree(t, d, m)
	}
	d.Crash(nil)
	m.crash(nil)
	agree(t, d, m)
}

// P9: all calls, one behind the other
func TestScripts(t *testing.T) {
	seed := uint32(1)
	for range 3000 {
		script := make([]byte, 400)
		for i := range script {
			seed = seed*1664525 + 1013904223
			script[i] = byte(seed >> 24)
		}
		play(t, script)
	}
}

// P9: scripts that a search finds
func FuzzScript(f *testing.F) {
	f.Add([]byte("\x00\x00\x03\x04abcd\x01\x05\x02\x00\x0b\x03\x02\x03\x01"))
	f.Fuzz(play)
}
