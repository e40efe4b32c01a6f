package mvcc_test

import (
	"slices"
	"testing"

	"relstore/api"
	"relstore/disk"
	"relstore/mvcc"
)

// keeps: ways in which a crash may keep what waited.
func keeps() [][]int {
	return [][]int{nil, {1}, {2, 1}, {0, 1}, {1, 0}, {1, 1, 2}, {0, 2, 1}}
}

// isDown: all calls of a store in which an operation of the disk has failed, and of a transaction of it that is open.
func isDown(t *testing.T, s *mvcc.Store, x *mvcc.Tx) {
	t.Helper()
	for _, table := range []int{1, 77, -1} {
		refuses(t, x, table, "k", api.ErrDown)
		refuses(t, x, table, "", api.ErrDown)
		refusesRanges(t, x, table, api.ErrDown)
		noLast(t, s, table, api.ErrDown)
	}
	is(t, s.Checkpoint(), api.ErrDown)
}

// ends of transactions of a store that is down.
func endsDown(t *testing.T, s *mvcc.Store, x *mvcc.Tx) {
	t.Helper()
	mark := x.Mark()
	all(t, api.ErrArg, x.BackTo(-1), x.BackTo(mark+1))
	all(t, api.OK, x.BackTo(mark), x.BackTo(0))
	if x.Mark() != 0 {
		t.Fatal("writes stand")
	}
	is(t, x.Rollback(), api.OK)
	isOver(t, x)
	// It is over, whatever comes, and though it has nothing to commit.
	y := s.Begin()
	isDown(t, s, y)
	is(t, y.Commit(), api.ErrDown)
	isOver(t, y)
	if s.Versions() != 0 {
		t.Fatalf("%d versions", s.Versions())
	}
}

// grown: a disk with a store of some tables, and what is in it.
func grown(t *testing.T) (*disk.Disk, state) {
	t.Helper()
	d := disk.New()
	s := opened(t, d, 8)
	now := state{}
	x := s.Begin()
	for i := range 36 {
		p := spot{1 + i%3, numbered(i, 10+2*i)}
		now[p] = run("v", i*47%700)
		is(t, x.Put(p.table, p.key, now[p]), api.OK)
	}
	is(t, x.Commit(), api.OK)
	return d, now
}

// chapter of a story: writes that are committed at once.
type chapter []deed

// story of several commits: tables come and go, values get longer and shorter.
func story() []chapter {
	l := []chapter{
		{{spot{1, "new"}, "1", true}},
		{{spot{5, "new"}, run("w", 2500), true}, {spot{6, "new"}, "w", true}, {spot{1, "new"}, run("w", 1200), true}},
		nil,
		{{spot{5, "new"}, "", false}, {spot{6, "other"}, "2", true}, {spot{1, "new"}, "2", true}},
		nil,
		{{spot{6, "new"}, "", false}, {spot{6, "other"}, "", false}, {spot{1, "new"}, "", false}, {spot{7, "k"}, run("x", 3000), true}},
	}
	for i := range 36 {
		if i%3 == 1 {
			l[2] = append(l[2], deed{spot{2, numbered(i, 10+2*i)}, "", false})
		}
		if i%4 == 0 {
			l[4] = append(l[4], deed{spot{1 + i%3, numbered(i, 10+2*i)}, run("y", i*31), true})
		}
	}
	return l
}

// write a chapter.
func (c chapter) write(x *mvcc.Tx) {
	for _, d := range c {
		if d.there {
			x.Put(d.table, d.key, d.value)
		} else {
			x.Erase(d.table, d.key)
		}
	}
}

// isState: does a store have this state, in all tables of the stories?
func isState(t *testing.T, s *mvcc.Store, want state) bool {
	t.Helper()
	x := s.Begin()
	defer x.Rollback()
	for table := range 9 {
		l, e := x.Peek(table, "", "")
		is(t, e, api.OK)
		if !slices.Equal(l, (reading{table: table}).list(want)) {
			return false
		}
	}
	return true
}

// played: a story on a store, up to the first call that fails: the last state that was committed, the one that was about to be (the same, if it was no commit that failed), and what came.
func played(t *testing.T, s *mvcc.Store, now state, l []chapter) (state, state, api.Errno) {
	t.Helper()
	for i, c := range l {
		x := s.Begin()
		c.write(x)
		next := done(now, c)
		if e := x.Commit(); e != api.OK {
			isOver(t, x)
			return now, next, e
		}
		now = next
		if i == 3 {
			if e := s.Checkpoint(); e != api.OK {
				return now, now, e
			}
		}
	}
	return now, now, api.OK
}

// goesOn: a store that was opened anew takes commits.
func goesOn(t *testing.T, s *mvcc.Store, now state) {
	t.Helper()
	now, _, e := played(t, s, now, []chapter{{{spot{1, "again"}, run("z", 1500), true}, {spot{2, "again"}, "z", true}}, {{spot{1, "again"}, "", false}}})
	is(t, e, api.OK)
	if !isState(t, s, now) {
		t.Fatal("what was committed is not there")
	}
	is(t, s.Checkpoint(), api.OK)
}

// P14: the disk goes down behind each number of operations, and a crash keeps of what waits what it may: what was committed is there, whole, and nothing else.
func TestADiskThatFails(t *testing.T) {
	base, start := grown(t)
	for _, keep := range keeps() {
		for fail := 0; ; fail++ {
			d := twin(t, base)
			s := opened(t, d, 8)
			open := s.Begin()
			is(t, open.Put(1, "open", "1"), api.OK)
			d.Fail(fail)
			now, next, e := played(t, s, start, story())
			if (e == api.OK) == d.Down() || e != api.OK && e != api.ErrDown {
				t.Fatalf("down behind %d: %v", fail, e)
			}
			if e == api.OK {
				if fail < 90 {
					t.Errorf("just %d operations", fail)
				}
				break
			}
			isDown(t, s, open)
			d.Crash(keep)
			// The disk is up again, but this store has failed.
			isDown(t, s, open)
			endsDown(t, s, open)
			r := opened(t, d, 8+fail%57)
			counts(t, r, 0, 0)
			if isState(t, r, next) {
				now = next
			} else if !isState(t, r, now) {
				t.Fatalf("down behind %d, %v is kept: neither what was committed nor what was about to be", fail, keep)
			}
			goesOn(t, r, now)
			if fail%5 == 0 {
				whole(t, d)
			}
		}
	}
}

// P14: a commit of so many pages that the log comes to its place behind it
func TestADiskThatFailsInALargeCommit(t *testing.T) {
	base, start := grown(t)
	var c chapter
	for i := range 320 {
		c = append(c, deed{spot{i % 5, numbered(i*7%320, 50)}, run("w", 3000-i), true})
	}
	for fail := 0; ; fail += 97 {
		d := twin(t, base)
		s := opened(t, d, 64)
		open := s.Begin()
		d.Fail(fail)
		now, next, e := played(t, s, start, []chapter{c})
		if e == api.OK {
			if fail < 2000 {
				t.Errorf("just %d operations", fail)
			}
			counts(t, s, 1, 320)
			break
		}
		is(t, e, api.ErrDown)
		isDown(t, s, open)
		d.Crash(keeps()[fail%len(keeps())])
		r := opened(t, d, 8)
		if isState(t, r, next) {
			now = next
		} else if !isState(t, r, now) {
			t.Fatalf("down behind %d: neither what was committed nor what was about to be", fail)
		}
		goesOn(t, r, now)
		whole(t, d)
	}
}

// P14: a crash between the calls takes nothing of what was committed, and all of what was not.
func TestCrashesBetweenTheCalls(t *testing.T) {
	d, now := grown(t)
	for i, c := range story() {
		s := opened(t, d, 8)
		if !isState(t, s, now) {
			t.Fatalf("ahead of chapter %d", i)
		}
		open := s.Begin()
		is(t, open.Put(1, "open", "1"), api.OK)
		now, _, _ = played(t, s, now, []chapter{c})
		back := s.Begin()
		all(t, api.OK, back.Put(1, "back", run("b", 3000)), back.Rollback())
		d.Crash(keeps()[i])
	}
	if !isState(t, opened(t, d, 8), now) {
		t.Fatal("at the end")
	}
}

// P14: Open on a disk that fails behind each number of operations
func TestOpenOnADiskThatFails(t *testing.T) {
	for _, keep := range keeps() {
		for fail := 0; ; fail++ {
			d := disk.New()
			d.Fail(fail)
			s, e := mvcc.Open(d, 8)
			if e == api.OK {
				if fail < 4 {
					t.Errorf("just %d operations", fail)
				}
				break
			}
			if s != nil || e != api.ErrDown {
				t.Fatalf("Open: %v", e)
			}
			if s, e := mvcc.Open(d, 8); s != nil || e != api.ErrDown {
				t.Fatalf("Open of a disk that is down: %v", e)
			}
			if s, e := mvcc.Open(d, 7); s != nil || e != api.ErrArg {
				t.Fatalf("Open with 7 frames of a disk that is down: %v", e)
			}
			d.Crash(keep)
			r := opened(t, d, 8)
			if !isState(t, r, state{}) {
				t.Fatal("there is something")
			}
			goesOn(t, r, state{})
		}
	}
}

// P14: Checkpoint on a disk that fails
func TestCheckpointOnADiskThatFails(t *testing.T) {
	base, now := grown(t)
	for fail := 0; ; fail++ {
		d := twin(t, base)
		s := opened(t, d, 8)
		x := s.Begin()
		d.Fail(fail)
		e := s.Checkpoint()
		if e == api.OK {
			if fail < 20 {
				t.Errorf("just %d operations", fail)
			}
			return
		}
		is(t, e, api.ErrDown)
		isDown(t, s, x)
		endsDown(t, s, x)
		d.Crash(keeps()[fail%len(keeps())])
		r := opened(t, d, 8)
		if !isState(t, r, now) {
			t.Fatalf("down behind %d", fail)
		}
		goesOn(t, r, now)
	}
}

// P14: a disk that went down elsewhere: no operation has failed in this store till it does one; what it cannot read is ErrDown.
func TestADiskThatIsDown(t *testing.T) {
	d, _ := grown(t)
	s := opened(t, d, 8)
	x, y, z := s.Begin(), s.Begin(), s.Begin()
	is(t, x.Put(1, "mine", "1"), api.OK)
	d.Fail(0)
	is(t, d.Sync(0), api.ErrDown)
	all(t, api.OK, x.Put(1, "k", "v"), x.Erase(1, "j"), x.Watch(1, "", "", nil), y.Commit())
	if v, ok, e := x.Get(1, "mine"); v != "1" || !ok || e != api.OK {
		t.Errorf("Get: %q, %v, %v", v, ok, e)
	}
	if v, ok, e := x.Get(1, numbered(30, 70)); v != "" || ok || e != api.ErrDown {
		t.Errorf("Get: %q, %v, %v", v, ok, e)
	}
	if ok, e := x.Delete(1, numbered(30, 70)); ok || e != api.ErrDown || x.Mark() != 3 {
		t.Errorf("Delete: %v, %v", ok, e)
	}
	if l, e := x.Scan(1, "", "", nil); len(l) != 0 || e != api.ErrDown {
		t.Errorf("Scan: %s, %v", told(l), e)
	}
	if l, e := x.Peek(1, "", ""); len(l) != 0 || e != api.ErrDown {
		t.Errorf("Peek: %s, %v", told(l), e)
	}
	noLast(t, s, 1, api.ErrDown)
	is(t, x.Put(1, "k", "w"), api.OK)
	is(t, x.Commit(), api.ErrDown)
	isOver(t, x)
	isDown(t, s, z)
	endsDown(t, s, z)
}

// P14: of several errors the first one: it is over, the disk is down, the arguments are wrong.
func TestWhichErrorComesFirst(t *testing.T) {
	d, _ := grown(t)
	s := opened(t, d, 8)
	over, x := s.Begin(), s.Begin()
	is(t, over.Rollback(), api.OK)
	all(t, api.OK, x.Put(1, "k", "v"), x.Watch(1, "", "", nil))
	commit(t, s, "conflict", "1")
	d.Fail(0)
	is(t, s.Checkpoint(), api.ErrDown)
	isOver(t, over)
	isDown(t, s, x)
	// It would be refused, too.
	is(t, x.Commit(), api.ErrDown)
	isOver(t, x)
	counts(t, s, 1, 0)
}
