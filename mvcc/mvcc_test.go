package mvcc_test

import (
	"math"
	"slices"
	"strings"
	"testing"

	"relstore/api"
	"relstore/disk"
	"relstore/mvcc"
)

// refuses: all calls of a transaction that read or write answer this error for a table and a key, and nothing else.
func refuses(t *testing.T, x *mvcc.Tx, table int, key string, want api.Errno) {
	t.Helper()
	mark := x.Mark()
	if v, ok, e := x.Get(table, key); v != "" || ok || e != want {
		t.Fatalf("Get: %q, %v, %v", v, ok, e)
	}
	if ok, e := x.Delete(table, key); ok || e != want {
		t.Fatalf("Delete: %v, %v", ok, e)
	}
	all(t, want, x.Put(table, key, "v"), x.Put(table, key, run("v", 3001)), x.Erase(table, key))
	if x.Mark() != mark {
		t.Fatal("a write stands")
	}
}

// refusesRanges: likewise for ranges of a table.
func refusesRanges(t *testing.T, x *mvcc.Tx, table int, want api.Errno) {
	t.Helper()
	if l, e := x.Scan(table, "", "", nil); len(l) != 0 || e != want {
		t.Fatalf("Scan: %s, %v", told(l), e)
	}
	if l, e := x.Peek(table, "", ""); len(l) != 0 || e != want {
		t.Fatalf("Peek: %s, %v", told(l), e)
	}
	all(t, want, x.Watch(table, "", "", nil), x.Watch(table, "", "", api.Part{Text: "v"}))
}

// noLast: Last of a table answers this error, and nothing else.
func noLast(t *testing.T, s *mvcc.Store, table int, want api.Errno) {
	t.Helper()
	if k, ok, e := s.Last(table); k != "" || ok || e != want {
		t.Fatalf("Last: %q, %v, %v", k, ok, e)
	}
}

// isOver: all calls of a transaction that is over, with right and with wrong arguments.
func isOver(t *testing.T, x *mvcc.Tx) {
	t.Helper()
	for _, table := range []int{1, -1} {
		refuses(t, x, table, "a", api.ErrState)
		refuses(t, x, table, "", api.ErrState)
		refusesRanges(t, x, table, api.ErrState)
	}
	all(t, api.ErrState, x.BackTo(0), x.BackTo(-1), x.BackTo(9), x.Commit(), x.Rollback(), x.Commit())
}

// P14: Open, with wrong inputs and at the edges
func TestOpen(t *testing.T) {
	for _, n := range []int{math.MinInt, -1, 0, 7, 65, math.MaxInt} {
		d := disk.New()
		if s, e := mvcc.Open(d, n); s != nil || e != api.ErrArg || d.Count() != 0 {
			t.Errorf("Open with %d frames: %v, %d operations", n, e, d.Count())
		}
	}
	if s, e := mvcc.Open(nil, 8); s != nil || e != api.ErrArg {
		t.Errorf("Open without a disk: %v", e)
	}
	for _, n := range []int{8, 64} {
		s := opened(t, disk.New(), n)
		counts(t, s, 0, 0)
		lasts(t, s, 0, "")
		x := s.Begin()
		sees(t, x, 0, "")
		if x.Mark() != 0 {
			t.Error(x.Mark())
		}
		is(t, x.Commit(), api.OK)
		is(t, s.Checkpoint(), api.OK)
	}
}

// P14: what was committed is there in a store that is opened anew, with other numbers of frames; what was not is not.
func TestOpenAnew(t *testing.T) {
	d := disk.New()
	want := ""
	for i, frames := range []int{8, 64, 9, 8, 33, 8} {
		s := opened(t, d, frames)
		counts(t, s, 0, 0)
		left(t, s, want)
		open := s.Begin()
		is(t, open.Put(1, "open", "1"), api.OK)
		back := s.Begin()
		all(t, api.OK, back.Put(1, "back", "1"), back.Rollback())
		k := string([]byte{byte('a' + i)})
		commit(t, s, k, "1")
		counts(t, s, 1, 1)
		want = strings.TrimSpace(want + " " + k + "1")
		left(t, s, want)
		if i%2 == 1 {
			is(t, s.Checkpoint(), api.OK)
		}
	}
}

// P14: what a transaction writes it sees at once, in all ways of asking; the others do not.
func TestItsOwnWrites(t *testing.T) {
	s := filled(t, "b", "1", "d", "1", "f", "1")
	x, other := s.Begin(), s.Begin()
	all(t, api.OK, x.Put(1, "a", "2"), x.Put(1, "d", "2"), x.Erase(1, "f"), x.Put(1, "g", "2"), x.Erase(1, "zz"))
	sees(t, x, 1, "a2 b1 d2 g2")
	sees(t, other, 1, "b1 d1 f1")
	gets(t, x, "a", "2", true)
	gets(t, x, "b", "1", true)
	gets(t, x, "d", "2", true)
	gets(t, x, "f", "", false)
	gets(t, x, "zz", "", false)
	gets(t, other, "a", "", false)
	gets(t, other, "f", "1", true)
	for _, w := range []struct{ from, to, part, want string }{
		{"", "", "2", "a2 d2 g2"}, {"", "", "1", "b1"}, {"b", "", "", "b1 d2 g2"}, {"aa", "d", "", "b1"}, {"", "b", "", "a2"}, {"e", "g", "", ""}, {"g", "h", "2", "g2"},
	} {
		if l, e := x.Scan(1, w.from, w.to, condOf(reading{part: w.part})); e != api.OK || listed(l) != w.want {
			t.Errorf("%v: %s, %v", w, listed(l), e)
		}
	}
	deletes(t, x, "a", true)
	deletes(t, x, "a", false)
	deletes(t, x, "f", false)
	all(t, api.OK, x.Put(1, "f", "3"), x.Put(1, "a", "3"))
	sees(t, x, 1, "a3 b1 d2 f3 g2")
	deletes(t, x, "d", true)
	sees(t, x, 1, "a3 b1 f3 g2")
	is(t, x.Commit(), api.OK)
	sees(t, other, 1, "b1 d1 f1")
	left(t, s, "a3 b1 f3 g2")
	counts(t, s, 2, 4)
}

// P14: a value without bytes is there.
func TestEmptyValues(t *testing.T) {
	s := fresh(t)
	x := s.Begin()
	is(t, x.Put(1, "a", ""), api.OK)
	gets(t, x, "a", "", true)
	sees(t, x, 1, "a")
	is(t, x.Commit(), api.OK)
	counts(t, s, 1, 0)
	left(t, s, "a")
	y, z := s.Begin(), s.Begin()
	gets(t, y, "a", "", true)
	is(t, y.Put(1, "y", "1"), api.OK)
	// It was there without bytes: erased is something else, and put once more is not.
	all(t, api.OK, z.Put(1, "a", ""), z.Commit())
	counts(t, s, 1, 0)
	z = s.Begin()
	deletes(t, z, "a", true)
	is(t, z.Commit(), api.OK)
	counts(t, s, 2, 1)
	gets(t, y, "a", "", true)
	is(t, y.Commit(), api.ErrConflict)
	left(t, s, "")
}

// P14: what a transaction sees stays, whatever others commit, each time the entry as it was when it began.
func TestSnapshots(t *testing.T) {
	s := fresh(t)
	var l []*mvcc.Tx
	var want []string
	for i := range 12 {
		l = append(l, s.Begin())
		n := string([]byte{byte('0' + i%10)})
		w := "a" + n + " c" + n
		switch i % 3 {
		case 0:
			commit(t, s, "a", n, "b", n, "c", n)
			w = "a" + n + " b" + n + " c" + n
		case 1:
			commit(t, s, "b", "", "a", n, "c", n)
		case 2:
			commit(t, s, "a", n, "c", n, "d", n, "b", "")
			commit(t, s, "d", "")
		}
		want = append(want, w)
		for j, x := range l {
			before := ""
			if j > 0 {
				before = want[j-1]
			}
			sees(t, x, 1, before)
			v, ok, e := x.Get(1, "b")
			if (strings.Contains(before, "b"+v) && ok) != strings.Contains(before, "b") || e != api.OK {
				t.Fatalf("Get of %d behind %d: %q, %v, %v", j, i, v, ok, e)
			}
			gets(t, x, "d", "", false)
		}
	}
	// Its own writes stand upon what it sees, not upon what is there now.
	is(t, l[1].Erase(1, "a"), api.OK)
	sees(t, l[1], 1, "b0 c0")
	is(t, l[2].Put(1, "b", "x"), api.OK)
	sees(t, l[2], 1, "a1 bx c1")
	is(t, l[2].BackTo(0), api.OK)
	sees(t, l[2], 1, "a1 c1")
}

// P14: Mark and BackTo
func TestMarkAndBackTo(t *testing.T) {
	s := filled(t, "a", "0", "b", "0")
	x := s.Begin()
	views := []string{"a0 b0"}
	mark := func(want string) {
		t.Helper()
		views = append(views, want)
		if x.Mark() != len(views)-1 {
			t.Fatalf("Mark %d, want %d", x.Mark(), len(views)-1)
		}
		sees(t, x, 1, want)
	}
	is(t, x.Put(1, "a", "1"), api.OK)
	mark("a1 b0")
	is(t, x.Put(1, "a", "2"), api.OK)
	mark("a2 b0")
	is(t, x.Erase(1, "b"), api.OK)
	mark("a2")
	is(t, x.Erase(1, "zz"), api.OK)
	mark("a2")
	deletes(t, x, "a", true)
	mark("")
	deletes(t, x, "a", false)
	deletes(t, x, "b", false)
	is(t, x.Put(1, "a", "2"), api.OK)
	mark("a2")
	is(t, x.Put(1, "a", "2"), api.OK)
	mark("a2")
	is(t, x.Put(1, "c", ""), api.OK)
	mark("a2 c")
	// Writes that were refused do not stand.
	all(t, api.ErrArg, x.Put(1, "", "v"), x.Erase(-1, "a"), x.Put(1, run("k", 201), "v"))
	is(t, x.Put(1, "a", run("v", 3001)), api.ErrLarge)
	for _, n := range []int{-1, math.MinInt, len(views), math.MaxInt} {
		is(t, x.BackTo(n), api.ErrArg)
	}
	sees(t, x, 1, "a2 c")
	for len(views) > 1 {
		is(t, x.BackTo(len(views)-1), api.OK)
		sees(t, x, 1, views[len(views)-1])
		views = views[:len(views)-1]
		is(t, x.BackTo(len(views)-1), api.OK)
		sees(t, x, 1, views[len(views)-1])
		is(t, x.BackTo(len(views)), api.ErrArg)
	}
	is(t, x.BackTo(0), api.OK)
	// Several at once, and others behind that.
	all(t, api.OK, x.Put(1, "c", "1"), x.Put(1, "a", "1"), x.Put(1, "c", "2"), x.Erase(1, "a"), x.Put(1, "d", "1"), x.BackTo(1))
	sees(t, x, 1, "a0 b0 c1")
	all(t, api.OK, x.Put(1, "e", "1"), x.Commit())
	left(t, s, "a0 b0 c1 e1")
}

// P14: how many writes of one that is over stand: all, if they count; else none.
func TestMarkBehindTheEnd(t *testing.T) {
	s := fresh(t)
	x, y := s.Begin(), s.Begin()
	all(t, api.OK, x.Put(1, "a", "1"), x.Put(1, "b", "1"), y.Put(1, "c", "1"), x.Commit(), y.Rollback())
	if x.Mark() != 2 || y.Mark() != 0 {
		t.Errorf("%d and %d", x.Mark(), y.Mark())
	}
}

// P14: calls of one that is over: that was committed with writes and without, and rolled back
func TestOver(t *testing.T) {
	s := filled(t, "a", "1")
	x, y, z := s.Begin(), s.Begin(), s.Begin()
	all(t, api.OK, x.Put(1, "a", "2"), x.Commit())
	isOver(t, x)
	is(t, y.Commit(), api.OK)
	isOver(t, y)
	all(t, api.OK, z.Put(1, "a", "3"), z.Rollback())
	isOver(t, z)
	left(t, s, "a2")
	counts(t, s, 2, 0)
}

// P14: commits that turn nothing leave no trace.
func TestCommitsThatTurnNothing(t *testing.T) {
	d := disk.New()
	s := opened(t, d, 8)
	commit(t, s, "a", "1", "b", run("v", 2000))
	old := s.Begin()
	gets(t, old, "a", "1", true)
	is(t, old.Put(1, "old", "1"), api.OK)
	n, log := d.Count(), fileOf(t, d, 1)
	commit(t, s)
	commit(t, s, "a", "1")
	commit(t, s, "zz", "")
	commit(t, s, "a", "2", "a", "1", "b", "", "b", run("v", 2000), "c", "1", "c", "")
	for _, table := range []int{0, 2, math.MaxInt32} {
		x := s.Begin()
		all(t, api.OK, x.Erase(table, "k"), x.Commit())
		x = s.Begin()
		all(t, api.OK, x.Put(table, "k", "v"), x.Erase(table, "k"), x.Commit())
	}
	x := s.Begin()
	all(t, api.OK, x.Put(1, "a", "2"), x.BackTo(0), x.Commit())
	x = s.Begin()
	all(t, api.OK, x.Put(1, "a", "2"), x.Rollback())
	counts(t, s, 1, 0)
	if d.Count() != n || fileOf(t, d, 1) != log {
		t.Errorf("%d operations were done", d.Count()-n)
	}
	is(t, old.Commit(), api.OK)
	counts(t, s, 2, 0)
}

// P14: Commits, Versions and Last behind each step, with several open
func TestCounts(t *testing.T) {
	s := fresh(t)
	counts(t, s, 0, 0)
	commit(t, s, "a", "1", "b", "1")
	counts(t, s, 1, 0) // nobody else is open
	lasts(t, s, 1, "b")
	one := s.Begin()
	counts(t, s, 1, 0)
	commit(t, s, "a", "2", "b", "1", "c", "1")
	counts(t, s, 2, 2) // b is as it was
	lasts(t, s, 1, "c")
	two := s.Begin()
	commit(t, s, "a", "3")
	counts(t, s, 3, 3) // a twice
	three := s.Begin()
	four := s.Begin()
	commit(t, s, "c", "", "d", "1")
	counts(t, s, 4, 5)
	lasts(t, s, 1, "d")
	is(t, three.Rollback(), api.OK) // not the oldest
	counts(t, s, 4, 5)
	is(t, one.Rollback(), api.OK) // the oldest: what was turned up to the next Begin goes
	counts(t, s, 4, 3)
	is(t, two.Commit(), api.OK)
	counts(t, s, 4, 2)
	sees(t, four, 1, "a3 b1 c1")
	is(t, four.Put(1, "e", "1"), api.OK)
	counts(t, s, 4, 2)
	is(t, four.Commit(), api.OK)
	counts(t, s, 5, 0)
	lasts(t, s, 1, "e")
	five := s.Begin()
	commit(t, s, "d", "", "e", "")
	counts(t, s, 6, 2)
	lasts(t, s, 1, "b")
	commit(t, s, "a", "", "b", "")
	counts(t, s, 7, 4)
	lasts(t, s, 1, "")
	sees(t, five, 1, "a3 b1 d1 e1")
	is(t, five.Rollback(), api.OK)
	counts(t, s, 7, 0)
}

// P14: the oldest is ended last, and two that began at one time
func TestTheOldestEndsLast(t *testing.T) {
	s := filled(t, "a", "1")
	old, same := s.Begin(), s.Begin()
	for i := range 5 {
		x := s.Begin()
		commit(t, s, "a", numbered(i, 6))
		is(t, x.Rollback(), api.OK)
		counts(t, s, 2+i, 1+i)
	}
	is(t, old.Rollback(), api.OK)
	counts(t, s, 6, 5)
	sees(t, same, 1, "a1")
	is(t, same.Commit(), api.OK)
	counts(t, s, 6, 0)
}

// P14: tables know nothing of one another; those that were never written are empty.
func TestTables(t *testing.T) {
	d := disk.New()
	s := opened(t, d, 8)
	numbers := []int{0, 1, 2, 255, 256, 65536, 1 << 24, math.MaxInt32 - 1, math.MaxInt32}
	x := s.Begin()
	for i, n := range numbers {
		sees(t, x, n, "")
		is(t, x.Put(n, "k", numbered(i, 6)), api.OK)
		is(t, x.Put(n, numbered(i, 6), "v"), api.OK)
	}
	look := func(x *mvcc.Tx) {
		t.Helper()
		for i, n := range numbers {
			sees(t, x, n, numbered(i, 6)+"v k"+numbered(i, 6))
			if v, ok, e := x.Get(n, "k"); v != numbered(i, 6) || !ok || e != api.OK {
				t.Errorf("table %d: %q, %v, %v", n, v, ok, e)
			}
			if l, e := x.Scan(n, "k", "", nil); listed(l) != "k"+numbered(i, 6) || e != api.OK {
				t.Errorf("table %d: %s, %v", n, told(l), e)
			}
		}
		for _, n := range []int{3, 254, 257, 1 << 23, math.MaxInt32 - 2} {
			sees(t, x, n, "")
			lasts(t, s, n, "")
		}
	}
	look(x)
	is(t, x.Commit(), api.OK)
	counts(t, s, 1, 0)
	look(s.Begin())
	old := s.Begin()
	x = s.Begin()
	for i, n := range numbers {
		if i%2 == 0 {
			all(t, api.OK, x.Erase(n, "k"), x.Erase(n, numbered(i, 6)))
		}
	}
	is(t, x.Commit(), api.OK)
	look(old)
	s = opened(t, d, 8)
	for i, n := range numbers {
		if i%2 == 0 {
			lasts(t, s, n, "")
			sees(t, s.Begin(), n, "")
		} else {
			lasts(t, s, n, "k")
		}
	}
	if n, _ := whole(t, d); n != 4 {
		t.Errorf("%d trees", n)
	}
}

// P14: numbers of tables that may not be
func TestNoTables(t *testing.T) {
	s := filled(t, "a", "1")
	x := s.Begin()
	for _, n := range []int{-1, math.MinInt, math.MaxInt32 + 1, math.MaxInt} {
		refuses(t, x, n, "a", api.ErrArg)
		refuses(t, x, n, "", api.ErrArg)
		refusesRanges(t, x, n, api.ErrArg)
		noLast(t, s, n, api.ErrArg)
	}
	is(t, x.Commit(), api.OK)
	counts(t, s, 1, 0)
}

// P14: keys and values at their edges
func TestKeysAndValues(t *testing.T) {
	d := disk.New()
	s := opened(t, d, 8)
	for _, size := range []int{0, 201, 300, 70000} {
		refuses(t, s.Begin(), 1, run("k", size), api.ErrArg)
	}
	x := s.Begin()
	want := map[string]string{}
	for i, key := range []string{"k", "\x00", "\xff", run("k", 200), run("\xff", 200), run("\x00", 200)} {
		for _, size := range []int{0, 1, 240, 2999, 3000} {
			v := run(string([]byte{byte('a' + i)}), size)
			is(t, x.Put(1, key, v), api.OK)
			gets(t, x, key, v, true)
			want[key] = v
		}
		for _, size := range []int{3001, 70000} {
			is(t, x.Put(1, key, run("v", size)), api.ErrLarge)
			gets(t, x, key, want[key], true)
		}
	}
	is(t, x.Commit(), api.OK)
	s = opened(t, d, 8)
	x = s.Begin()
	for k, v := range want {
		gets(t, x, k, v, true)
	}
	lasts(t, s, 1, run("\xff", 200))
	for k := range want {
		deletes(t, x, k, true)
		deletes(t, x, k, false)
	}
	is(t, x.Commit(), api.OK)
	left(t, s, "")
}

// P14: ranges with ends that are empty, equal, crossed, or no keys
func TestRanges(t *testing.T) {
	s := filled(t, "a", "1", "b", "1", "c", "1", "d", "1")
	old := s.Begin()
	commit(t, s, "aa", "2", "b", "2", "c", "")
	x := s.Begin()
	all(t, api.OK, x.Put(1, "a", "3"), x.Erase(1, "d"), x.Put(1, "cc", "3"))
	for _, w := range []struct{ from, to, old, now string }{
		{"", "", "a1 b1 c1 d1", "a3 aa2 b2 cc3"},
		{"a", "", "a1 b1 c1 d1", "a3 aa2 b2 cc3"},
		{"", "a", "", ""},
		{"", "a\x00", "a1", "a3"},
		{"a", "a", "", ""},
		{"b", "b", "", ""},
		{"b", "b\x00", "b1", "b2"},
		{"c", "a", "", ""},
		{"d", "a", "", ""},
		{"a", "c", "a1 b1", "a3 aa2 b2"},
		{"aa", "cc", "b1 c1", "aa2 b2"},
		{"aa", "cd", "b1 c1", "aa2 b2 cc3"},
		{"b\x00", "d", "c1", "cc3"},
		{"d", "", "d1", ""},
		{"e", "", "", ""},
		{"", run("z", 500), "a1 b1 c1 d1", "a3 aa2 b2 cc3"},
		{run("a", 500), "", "b1 c1 d1", "b2 cc3"},
		{run("a", 500), run("b", 500), "b1", "b2"},
		{"\x00", "\xff", "a1 b1 c1 d1", "a3 aa2 b2 cc3"},
	} {
		for i, x := range []*mvcc.Tx{old, x} {
			want := []string{w.old, w.now}[i]
			if l, e := x.Peek(1, w.from, w.to); listed(l) != want || e != api.OK {
				t.Errorf("Peek(%s, %s): %s, %v; want %s", short(w.from), short(w.to), listed(l), e, want)
			}
			for _, c := range []api.Cond{nil, api.Part{}, &prefix{""}} {
				if l, e := x.Scan(1, w.from, w.to, c); listed(l) != want || e != api.OK {
					t.Errorf("Scan(%s, %s): %s, %v; want %s", short(w.from), short(w.to), listed(l), e, want)
				}
			}
			if l, e := x.Scan(1, w.from, w.to, api.Part{Text: "no"}); len(l) != 0 || e != api.OK {
				t.Errorf("Scan(%s, %s): %s, %v", short(w.from), short(w.to), listed(l), e)
			}
			if l, e := x.Scan(2, w.from, w.to, nil); len(l) != 0 || e != api.OK {
				t.Errorf("Scan(%s, %s): %s, %v", short(w.from), short(w.to), listed(l), e)
			}
		}
	}
}

// P14: tables of many entries, of which an old one sees others than a new one; Checkpoint between the calls
func TestManyEntries(t *testing.T) {
	d := disk.New()
	s := opened(t, d, 8)
	want := []state{{}}
	var l []*mvcc.Tx
	for i := range 6 {
		l = append(l, s.Begin())
		x := s.Begin()
		now := done(want[i], nil)
		for j := range 120 {
			p := spot{1 + j%2, numbered((j*37+i*53)%200, 6+j%100)}
			if j%4 == 3 {
				is(t, x.Erase(p.table, p.key), api.OK)
				delete(now, p)
			} else {
				now[p] = run("v", (i*97+j*31)%600)
				is(t, x.Put(p.table, p.key, now[p]), api.OK)
			}
		}
		is(t, x.Commit(), api.OK)
		if i%2 == 0 {
			is(t, s.Checkpoint(), api.OK)
		}
		want = append(want, now)
	}
	l = append(l, s.Begin())
	for i, x := range l {
		for _, table := range []int{1, 2} {
			for _, r := range []reading{{table, "", "", ""}, {table, numbered(50, 6), numbered(150, 20), ""}, {table, "", "", "vvv"}} {
				got, e := x.Scan(table, r.from, r.to, condOf(r))
				if w := r.list(want[i]); e != api.OK || !slices.Equal(got, w) {
					t.Fatalf("%d: %s, %v; want %s", i, told(got), e, told(w))
				}
			}
		}
		is(t, s.Checkpoint(), api.OK)
	}
	whole(t, d)
}

// P14: Checkpoint: the log is empty behind it, and the pages are at their places.
func TestCheckpoint(t *testing.T) {
	d := disk.New()
	s := opened(t, d, 8)
	x := s.Begin()
	for i := range 40 {
		is(t, x.Put(1, numbered(i, 100), run("v", i*70)), api.OK)
	}
	is(t, x.Commit(), api.OK)
	y := s.Begin()
	is(t, y.Put(1, "y", "1"), api.OK)
	is(t, s.Checkpoint(), api.OK)
	n := d.Count()
	is(t, s.Checkpoint(), api.OK)
	if d.Count() != n {
		t.Error("there was something left")
	}
	// Without its log a disk has what is at its place.
	c := twin(t, d)
	is(t, c.Cut(1, 0), api.OK)
	z := opened(t, c, 8).Begin()
	l, e := z.Peek(1, "", "")
	if len(l) != 40 || e != api.OK || l[39].Value != run("v", 39*70) {
		t.Errorf("%s, %v", told(l), e)
	}
	is(t, y.Commit(), api.OK)
	lasts(t, s, 1, "y")
	counts(t, s, 2, 0)
}
