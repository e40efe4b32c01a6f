package mvcc_test

import (
	"maps"
	"slices"
	"strings"
	"testing"

	"relstore/api"
	"relstore/disk"
	"relstore/mvcc"
)

// spot: where an entry stands.
type spot struct {
	table int
	key   string
}

// state: all entries of all tables.
type state map[spot]string

// differ: the spots at which two states are not the same.
func (s state) differ(o state) []spot {
	var l []spot
	for p, v := range s {
		if w, ok := o[p]; !ok || v != w {
			l = append(l, p)
		}
	}
	for p := range o {
		if _, ok := s[p]; !ok {
			l = append(l, p)
		}
	}
	return l
}

// reading: a range, and the text that a value must have in it.
type reading struct {
	table    int
	from, to string
	part     string
}

// holds: is it read, as a state has it?
func (r reading) holds(p spot, s state) bool {
	v, there := s[p]
	return there && p.table == r.table && p.key >= r.from && (r.to == "" || p.key < r.to) && strings.Contains(v, r.part)
}

// list of what a reading holds of a state, in order.
func (r reading) list(s state) []api.Entry {
	var l []api.Entry
	for p, v := range s {
		if r.holds(p, s) {
			l = append(l, api.Entry{Key: p.key, Value: v})
		}
	}
	slices.SortFunc(l, func(a, b api.Entry) int { return strings.Compare(a.Key, b.Key) })
	return l
}

// deed: one write.
type deed struct {
	spot
	value string
	there bool
}

// actor: a transaction, and what must be of it.
type actor struct {
	x      *mvcc.Tx
	began  int // how many states there were
	writes []deed
	reads  []reading
	over   bool
	calls  []call
}

// call of a transaction, which answers a text.
type call struct {
	do   func(x *mvcc.Tx) string
	want string
}

// world: a store, and all versions of the whole state.
type world struct {
	d      *disk.Disk
	s      *mvcc.Store
	states []state
	first  int // how many states there were when the store was opened
	actors []*actor
	serial []*actor // each where it began, and once more where it was committed
}

// made: a world over an empty disk.
func made(t *testing.T) *world {
	t.Helper()
	d := disk.New()
	return &world{d: d, s: opened(t, d, 8), states: []state{{}}, first: 1}
}

// last state.
func (w *world) last() state { return w.states[len(w.states)-1] }

// begin a transaction.
func (w *world) begin() {
	a := &actor{x: w.s.Begin(), began: len(w.states)}
	w.actors = append(w.actors, a)
	w.serial = append(w.serial, a)
}

// view of a transaction: what was committed when it began, with its own writes.
func (w *world) view(a *actor) state { return done(w.states[a.began-1], a.writes) }

// done: a state with writes done to it.
func done(s state, writes []deed) state {
	n := maps.Clone(s)
	for _, d := range writes {
		delete(n, d.spot)
		if d.there {
			n[d.spot] = d.value
		}
	}
	return n
}

// conflict: has a commit since a transaction began turned what it has read?
func (w *world) conflict(a *actor) bool {
	for i := a.began; i < len(w.states); i++ {
		ahead, behind := w.states[i-1], w.states[i]
		for _, p := range ahead.differ(behind) {
			for _, r := range a.reads {
				if r.holds(p, ahead) || r.holds(p, behind) {
					return true
				}
			}
		}
	}
	return false
}

// versions that must be kept.
func (w *world) versions() int {
	oldest := len(w.states)
	for _, a := range w.actors {
		if !a.over {
			oldest = min(oldest, a.began)
		}
	}
	n := 0
	for i := oldest; i < len(w.states); i++ {
		n += len(w.states[i-1].differ(w.states[i]))
	}
	return n
}

// commit a transaction.
func (w *world) commit(t *testing.T, a *actor) {
	t.Helper()
	want := api.OK
	if len(a.writes) > 0 && w.conflict(a) {
		want = api.ErrConflict
	}
	is(t, a.x.Commit(), want)
	a.over = true
	if want != api.OK {
		a.writes, a.calls = nil, nil
		return
	}
	w.serial = append(w.serial, a)
	if next := done(w.last(), a.writes); len(w.last().differ(next)) > 0 {
		w.states = append(w.states, next)
	}
}

// rollback a transaction.
func (w *world) rollback(t *testing.T, a *actor) {
	t.Helper()
	is(t, a.x.Rollback(), api.OK)
	a.over, a.writes, a.calls = true, nil, nil
}

// reopen the store: all that was open is no more.
func (w *world) reopen(t *testing.T, frames int) {
	t.Helper()
	w.s = opened(t, w.d, frames)
	w.first = len(w.states)
	for _, a := range w.actors {
		if !a.over {
			a.writes, a.calls = nil, nil
		}
	}
	w.actors = nil
}

// ask a call, which must answer this; it is noted for the time when all is done one behind the other.
func (a *actor) ask(t *testing.T, want string, do func(x *mvcc.Tx) string) {
	t.Helper()
	if got := do(a.x); got != want {
		t.Fatalf("answer %s, want %s", got, want)
	}
	a.calls = append(a.calls, call{do, want})
}

// tells what a call has answered.
func tells(l []api.Entry, v string, ok bool, e api.Errno) string {
	s := []string{told(l), v}
	if ok {
		s = append(s, "there")
	}
	return strings.Join(append(s, strings.Repeat("!", int(e))), ",")
}

// get an entry.
func (w *world) get(t *testing.T, a *actor, p spot) {
	t.Helper()
	v, ok := w.view(a)[p]
	a.ask(t, tells(nil, v, ok, api.OK), func(x *mvcc.Tx) string {
		v, ok, e := x.Get(p.table, p.key)
		return tells(nil, v, ok, e)
	})
	a.reads = append(a.reads, reading{p.table, p.key, p.key + "\x00", ""})
}

// delete an entry.
func (w *world) delete(t *testing.T, a *actor, p spot) {
	t.Helper()
	_, ok := w.view(a)[p]
	a.ask(t, tells(nil, "", ok, api.OK), func(x *mvcc.Tx) string {
		ok, e := x.Delete(p.table, p.key)
		return tells(nil, "", ok, e)
	})
	a.reads = append(a.reads, reading{p.table, p.key, p.key + "\x00", ""})
	if ok {
		a.writes = append(a.writes, deed{spot: p})
	}
}

// condOf a reading: none, if all values meet it.
func condOf(r reading) api.Cond {
	if r.part == "" {
		return nil
	}
	return api.Part{Text: r.part}
}

// scan a range.
func (w *world) scan(t *testing.T, a *actor, r reading) {
	t.Helper()
	a.ask(t, tells(r.list(w.view(a)), "", false, api.OK), func(x *mvcc.Tx) string {
		l, e := x.Scan(r.table, r.from, r.to, condOf(r))
		return tells(l, "", false, e)
	})
	a.reads = append(a.reads, r)
}

// watch a range.
func (w *world) watch(t *testing.T, a *actor, r reading) {
	t.Helper()
	is(t, a.x.Watch(r.table, r.from, r.to, condOf(r)), api.OK)
	a.reads = append(a.reads, r)
}

// peek at a range: it is not read.
func (w *world) peek(t *testing.T, a *actor, r reading) {
	t.Helper()
	r.part = ""
	l, e := a.x.Peek(r.table, r.from, r.to)
	if want := r.list(w.view(a)); e != api.OK || !slices.Equal(l, want) {
		t.Fatalf("Peek(%d, %q, %q): %s, %v; want %s", r.table, r.from, r.to, told(l), e, told(want))
	}
}

// put an entry.
func (w *world) put(t *testing.T, a *actor, p spot, value string) {
	t.Helper()
	a.ask(t, "", func(x *mvcc.Tx) string { return run("!", int(x.Put(p.table, p.key, value))) })
	a.writes = append(a.writes, deed{p, value, true})
}

// erase an entry.
func (w *world) erase(t *testing.T, a *actor, p spot) {
	t.Helper()
	a.ask(t, "", func(x *mvcc.Tx) string { return run("!", int(x.Erase(p.table, p.key))) })
	a.writes = append(a.writes, deed{spot: p})
}

// backTo a mark.
func (w *world) backTo(t *testing.T, a *actor, mark int) {
	t.Helper()
	a.ask(t, "", func(x *mvcc.Tx) string { return run("!", int(x.BackTo(mark))) })
	a.writes = a.writes[:mark]
}

// tables of a world.
func tables() []int { return []int{0, 1, 7, 1<<31 - 1} }

// holds: does the store tell what must be, and does each open transaction see it?
func (w *world) holds(t *testing.T) {
	t.Helper()
	counts(t, w.s, len(w.states)-w.first, w.versions())
	for _, n := range tables() {
		key := ""
		for p := range w.last() {
			if p.table == n {
				key = max(key, p.key)
			}
		}
		lasts(t, w.s, n, key)
	}
	for _, a := range w.actors {
		if a.over {
			continue
		}
		if a.x.Mark() != len(a.writes) {
			t.Fatalf("Mark %d, want %d", a.x.Mark(), len(a.writes))
		}
		for _, n := range tables() {
			w.peek(t, a, reading{table: n})
		}
	}
}

// reader hands out numbers of a script; zeros behind its end.
type reader struct{ script []byte }

func (r *reader) below(n int) int {
	if len(r.script) == 0 {
		return 0
	}
	b := int(r.script[0])
	r.script = r.script[1:]
	return b % n
}

// spot out of a few.
func (r *reader) spot() spot {
	n := r.below(10)
	key := string([]byte{byte('a' + n)})
	if n > 7 {
		key = run("k", 199+n%2)
	}
	return spot{tables()[r.below(8)%5%4], key}
}

// bound of a range.
func (r *reader) bound() string {
	n := r.below(10)
	if n > 7 {
		return ""
	}
	return string([]byte{byte('a' + n)}) + run("c", n%2*r.below(2))
}

// reading of a range; often whole, and often with a condition.
func (r *reader) reading() reading {
	p := reading{table: r.spot().table}
	if r.below(3) > 0 {
		p.from, p.to = r.bound(), r.bound()
	}
	p.part = []string{"", "1", "2", "12", "v", "vv"}[r.below(6)]
	return p
}

// value out of a few; seldom a long one.
func (r *reader) value() string {
	n := r.below(16)
	return []string{"", "1", "2", "12", "21", "3", "v", "vv"}[n%8] + run("v", n/15*r.below(13)*230)
}

// actor that is open; one is begun if none is. Those that began late are asked more often, so that others stay open for long.
func (w *world) actor(r *reader) *actor {
	var l []*actor
	for _, a := range w.actors {
		if !a.over {
			l = append(l, a)
		}
	}
	if len(l) == 0 {
		w.begin()
		return w.actors[len(w.actors)-1]
	}
	return l[max(r.below(len(l)), r.below(len(l)))]
}

// step: one call that the script tells.
func (w *world) step(t *testing.T, r *reader) {
	t.Helper()
	n := r.below(64)
	if n < 8 {
		w.begin()
		return
	}
	a := w.actor(r)
	switch {
	case n < 14:
		w.get(t, a, r.spot())
	case n < 20:
		w.scan(t, a, r.reading())
	case n < 24:
		w.watch(t, a, r.reading())
	case n < 27:
		w.peek(t, a, r.reading())
	case n < 40:
		w.put(t, a, r.spot(), r.value())
	case n < 44:
		w.erase(t, a, r.spot())
	case n < 48:
		w.delete(t, a, r.spot())
	case n < 50:
		w.backTo(t, a, r.below(len(a.writes)+1))
	case n < 59:
		w.commit(t, a)
	case n < 61:
		w.rollback(t, a)
	case n < 62:
		is(t, w.s.Checkpoint(), api.OK)
	case r.below(4) == 0:
		w.reopen(t, 8+r.below(57))
	case r.below(2) == 0:
		w.d.Crash([]int{r.below(3), r.below(3)})
		w.reopen(t, 8)
	}
}

// oneBehindTheOther: what was committed answers so too, over an empty disk: those whose writes stand where they were committed, the others where they began.
func (w *world) oneBehindTheOther(t *testing.T) {
	t.Helper()
	s := fresh(t)
	met := map[*actor]int{}
	for _, a := range w.serial {
		met[a]++
		if wrote := len(a.writes) > 0; !a.over || len(a.calls) == 0 || wrote != (met[a] == 2) {
			continue
		}
		x := s.Begin()
		for _, c := range a.calls {
			if got := c.do(x); got != c.want {
				t.Fatalf("one behind the other: answer %s, want %s", got, c.want)
			}
		}
		is(t, x.Commit(), api.OK)
	}
	x := s.Begin()
	for _, n := range tables() {
		l, e := x.Peek(n, "", "")
		if want := (reading{table: n}).list(w.last()); e != api.OK || !slices.Equal(l, want) {
			t.Fatalf("one behind the other: %s, %v; want %s", told(l), e, told(want))
		}
	}
}

// play a script.
func play(t *testing.T, script []byte) *world {
	t.Helper()
	w := made(t)
	r := &reader{script: script}
	for len(r.script) > 0 {
		w.step(t, r)
		w.holds(t)
	}
	for _, a := range w.actors {
		if !a.over {
			w.commit(t, a)
			w.holds(t)
		}
	}
	w.oneBehindTheOther(t)
	w.d.Crash(nil)
	w.reopen(t, 8)
	w.begin()
	w.holds(t)
	return w
}

// scripts: so many of so many bytes.
func scripts(number, size int) [][]byte {
	seed := uint32(1)
	var l [][]byte
	for range number {
		s := make([]byte, size)
		for i := range s {
			seed = seed*1664525 + 1013904223
			s[i] = byte(seed >> 24)
		}
		l = append(l, s)
	}
	return l
}

// P14: histories of several transactions in turns, against all versions of the whole state; and what was committed once more, one behind the other
func TestScripts(t *testing.T) {
	for _, s := range scripts(120, 600) {
		w := play(t, s)
		whole(t, w.d)
	}
}

// P14: scripts that a search finds
func FuzzScript(f *testing.F) {
	f.Add([]byte("\x00\x00\x1c\x00\x00\x01\x1c\x01\x00\x02\x34\x00\x34\x00"))
	f.Add(scripts(1, 300)[0])
	f.Fuzz(func(t *testing.T, script []byte) { play(t, script) })
}
