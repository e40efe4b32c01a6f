package wal_test

import (
	"slices"
	"testing"

	"relstore/api"
	"relstore/disk"
	"relstore/wal"
)

// deed: a call of a log, and the names of the pages that count behind it (none: they stay as they are).
type deed struct {
	do    func(l *wal.Log) api.Errno
	names []string
}

func adds(n int, name string) deed {
	return deed{do: func(l *wal.Log) api.Errno { return l.Append(n, sheet(name)) }}
}

// commits all that was appended, so that these are the pages.
func commits(n int, name string, names ...string) deed {
	return deed{func(l *wal.Log) api.Errno { return l.Commit(n, sheet(name), len(names)) }, names}
}

func backs() deed {
	return deed{do: func(l *wal.Log) api.Errno { l.Back(); return api.OK }}
}

func checkpoints() deed { return deed{do: (*wal.Log).Checkpoint} }

// story of a log: pages are written, written again, forgotten, cut off, and come anew.
func story() []deed {
	return []deed{
		adds(0, "a1"), adds(1, "b1"), commits(2, "c1", "a1", "b1", "c1"),
		adds(1, "b2"), backs(), adds(0, "a2"), commits(0, "a3", "a3", "b1", "c1"),
		checkpoints(),
		adds(3, "d1"), commits(1, "b3", "a3", "b3", "c1", "d1"),
		adds(2, "c2"), backs(), checkpoints(),
		commits(0, "a4", "a4", "b3"),
		adds(2, "c3"), adds(0, "a5"), backs(), commits(1, "b4", "a4", "b4"),
		checkpoints(),
		commits(2, "c4", "a4", "b4", "c4"),
		adds(0, "a6"), adds(1, "b6"), adds(4, "e6"), adds(2, "c6"),
	}
}

// told: how far a story came.
type told struct {
	names []string // the pages of the last commit that was answered
	next  []string // those of one that was not: it may be there
	known []string // all names that were committed up to here
}

// tell a story on a disk that goes down behind so many operations (below 0: it does not).
func tell(t *testing.T, d *disk.Disk, deeds []deed, fail int) told {
	t.Helper()
	d.Fail(fail)
	var so told
	l, e := wal.Open(d)
	for _, x := range deeds {
		if e != api.OK {
			break
		}
		e = x.do(l)
		switch {
		case x.names == nil:
		case e == api.OK:
			so.names = x.names
			so.known = append(so.known, x.names...)
		default:
			so.next = x.names
		}
	}
	if (e == api.OK) == d.Down() || e != api.OK && e != api.ErrDown {
		t.Fatalf("down behind %d: %v", fail, e)
	}
	return so
}

// namesOf the pages that count.
func namesOf(t *testing.T, l *wal.Log) []string {
	t.Helper()
	var names []string
	for n := range l.Pages() {
		s, e := l.Read(n)
		is(t, e, api.OK)
		if s != sheet(s[1:3]) {
			t.Fatalf("page %d: %s", n, short(s))
		}
		names = append(names, s[1:3])
	}
	return names
}

// keeps: all ways in which a crash may deal with so many writes and cuts.
func keeps(waits int) [][]int {
	l := [][]int{nil}
	for range waits {
		var longer [][]int
		for _, keep := range l {
			for how := range 3 {
				longer = append(longer, append(slices.Clone(keep), how))
			}
		}
		l = longer
	}
	return l
}

// holds: does a log have the pages of the last commit, and nothing behind it?
func (so told) holds(t *testing.T, l *wal.Log) []string {
	t.Helper()
	names := namesOf(t, l)
	if !slices.Equal(names, so.names) && (so.next == nil || !slices.Equal(names, so.next)) {
		t.Fatalf("%q; want %q, or %q", names, so.names, so.next)
	}
	for n := l.Pages(); n < 7; n++ {
		if s, e := l.Read(n); e == api.OK && !slices.Contains(so.known, s[1:3]) {
			t.Fatalf("page %d was never committed: %s", n, short(s))
		}
	}
	return names
}

// operations that a story takes, its opening among them.
func operations(t *testing.T, deeds []deed) int {
	t.Helper()
	d := disk.New()
	tell(t, d, deeds, -1)
	return d.Count()
}

// P11: the disk goes down behind each number of operations, and each way of keeping is tried.
func TestWhateverACrashKeeps(t *testing.T) {
	for fail := range operations(t, story()) + 1 {
		d := disk.New()
		tell(t, d, story(), fail)
		for _, keep := range keeps(d.Waits()) {
			d := disk.New()
			so := tell(t, d, story(), fail)
			d.Crash(keep)
			l := opened(t, d)
			names := so.holds(t, l)
			// What was kept lasts, and the log goes on upon it.
			d.Crash(nil)
			if again := namesOf(t, opened(t, d)); !slices.Equal(again, names) {
				t.Fatalf("down behind %d, kept %v: %q; then %q", fail, keep, names, again)
			}
			names = append(slices.Clone(names), "zz")
			is(t, l.Commit(len(names)-1, sheet("zz"), len(names)), api.OK)
			d.Crash(nil)
			l = opened(t, d)
			is(t, l.Checkpoint(), api.OK)
			if again := namesOf(t, l); !slices.Equal(again, names) {
				t.Fatalf("down behind %d, kept %v: %q; want %q", fail, keep, again, names)
			}
		}
	}
}

// P11: a commit whose slot is written is there if all of the slot is kept, else not.
func TestHalfACommit(t *testing.T) {
	deeds := []deed{commits(0, "a1", "a1"), commits(0, "a2", "a2"), commits(0, "a3", "a3"), commits(0, "a4", "a4")}
	for i := range deeds {
		for how, want := range [][]string{deeds[max(i-1, 0)].names, deeds[i].names, deeds[max(i-1, 0)].names} {
			if i == 0 && how != 1 {
				want = nil
			}
			d := disk.New()
			tell(t, d, deeds, 4+4*i+3)
			if d.Waits() != 1 {
				t.Fatalf("%d wait", d.Waits())
			}
			d.Crash([]int{how})
			l := opened(t, d)
			if names := namesOf(t, l); !slices.Equal(names, want) || l.Frames() != i+how%2 {
				t.Errorf("commit %d, kept %d: %q, %d frames", i, how, names, l.Frames())
			}
		}
	}
}

// P11: crashes in the opening, one behind the other, over logs that are not right and over none
func TestCrashesInTheOpening(t *testing.T) {
	pages := sheet("aa") + sheet("bb") + "rest"
	for _, log := range []string{
		"", mark, "x" + mark[1:] + slot(2, 0, 9) + slot(3, 0, 8), mark + slot(0, 0, 7) + slot(4, 0, 6), mark + slot(1, 1, 5),
		mark + slot(1, 9, 7) + slot(2, 9, 6) + frame(0, "cc") + frame(1, "dd"), "x" + zeros(3000),
	} {
		for first := range 5 {
			for _, keep := range keeps(1) {
				for second := range 5 {
					for _, more := range keeps(1) {
						d := laid(t, pages, log)
						for i, how := range [][]int{keep, more} {
							d.Fail([]int{first, second}[i])
							wal.Open(d)
							d.Crash(how)
						}
						l := opened(t, d)
						if names := namesOf(t, l); !slices.Equal(names, []string{"aa", "bb"}) {
							t.Fatalf("down behind %d, kept %v; behind %d, kept %v: %q", first, keep, second, more, names)
						}
						has(t, d, pages, mark+slot(1, 0, 2))
					}
				}
			}
		}
	}
}

// P11: behind a crash that leaves a right slot, the next opening does nothing that could be cut short.
func TestSecondCrash(t *testing.T) {
	for fail := range operations(t, story()) + 1 {
		for _, keep := range [][]int{nil, {1}, {2}, {0, 1}, {1, 0}, {2, 1}, {1, 2}} {
			for second := range 5 {
				for _, more := range [][]int{nil, {1}, {2}} {
					d := disk.New()
					so := tell(t, d, story(), fail)
					d.Crash(keep)
					n := d.Count()
					d.Fail(second)
					l, e := wal.Open(d)
					if e == api.OK {
						so.holds(t, l)
					}
					if fail >= 4 && (e != api.OK || d.Count() != n) {
						t.Fatalf("down behind %d, kept %v: %v, %d operations", fail, keep, e, d.Count()-n)
					}
					d.Crash(more)
					so.holds(t, opened(t, d))
				}
			}
		}
	}
}

// P11: which operations each call does, in their order: whatever the disk loses behind each of them, both files are those of the model.
func TestEachOperation(t *testing.T) {
	for fail := range 40 {
		for _, keep := range [][]int{nil, {1}, {2}, {1, 0}, {0, 1}, {1, 2}, {2, 1}, {1, 1, 0}, {0, 2, 1}} {
			p := couple(t, sheet("zero"))
			p.fail(fail)
			e := p.open(t)
			for _, call := range []func() (api.Errno, api.Errno){
				func() (api.Errno, api.Errno) { return p.l.Append(1, sheet("a")), p.m.append(1, sheet("a")) },
				func() (api.Errno, api.Errno) { return p.l.Append(0, sheet("b")), p.m.append(0, sheet("b")) },
				func() (api.Errno, api.Errno) { return p.l.Commit(2, sheet("c"), 3), p.m.commit(2, sheet("c"), 3) },
				func() (api.Errno, api.Errno) { return p.l.Checkpoint(), p.m.checkpoint() },
				func() (api.Errno, api.Errno) { return p.l.Commit(1, sheet("d"), 2), p.m.commit(1, sheet("d"), 2) },
				func() (api.Errno, api.Errno) { return p.l.Commit(5, sheet("e"), 4), p.m.commit(5, sheet("e"), 4) },
				func() (api.Errno, api.Errno) { return p.l.Checkpoint(), p.m.checkpoint() },
			} {
				if e != api.OK {
					break
				}
				p.agree(t)
				var want api.Errno
				e, want = call()
				is(t, e, want)
			}
			p.agree(t)
			p.crash(t, keep)
			p.open(t)
			p.agree(t)
		}
	}
}
