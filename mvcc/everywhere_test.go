package mvcc_test

import (
	"math"
	"slices"
	"testing"

	"relstore/api"
	"relstore/disk"
	"relstore/mvcc"
	"relstore/page"
	"relstore/pool"
	"relstore/tree"
)

// numbers, texts and conditions of all kinds.
func numbers() []int {
	return []int{0, 1, -1, 7, math.MaxInt32, math.MaxInt32 + 1, math.MaxInt, math.MinInt}
}

func texts() []string {
	return []string{"", "\x00", "a", "k", "\xff", run("k", 200), run("k", 201), run("\xff", 200), run("\x00", 70000)}
}

func conds() []api.Cond {
	return []api.Cond{
		nil, api.Part{}, api.Part{Text: "1"}, api.Part{Text: run("v", 4000)}, &prefix{"a"}, (*prefix)(nil), asked(nil),
		asked(func(key, value string) bool { panic("no condition") }),
		asked(func(key, value string) bool { return key[9] == value[9] }),
	}
}

// zero: beside an error there must be nothing else.
func zero(t *testing.T, name string, e api.Errno, nothing bool) {
	t.Helper()
	if e != api.OK && !nothing {
		t.Errorf("%s: something beside %v", name, e)
	}
}

// askTx all calls of a transaction but those that end it.
func askTx(t *testing.T, x *mvcc.Tx) {
	t.Helper()
	for _, n := range numbers() {
		for i, k := range texts() {
			v, ok, e := x.Get(n, k)
			zero(t, "Get", e, v == "" && !ok)
			ok, e = x.Delete(n, k)
			zero(t, "Delete", e, !ok)
			x.Put(n, k, texts()[(i+3)%len(texts())])
			x.Put(n, k, run("v", 700*i))
			x.Erase(n, k)
			x.Put(n, k, "1")
			to := texts()[(i+n&7)%len(texts())]
			l, e := x.Peek(n, k, to)
			zero(t, "Peek", e, len(l) == 0)
			for _, c := range conds() {
				l, e = x.Scan(n, k, to, c)
				zero(t, "Scan", e, len(l) == 0)
				x.Watch(n, k, to, c)
			}
		}
		x.BackTo(n)
		x.Mark()
	}
}

// askAll calls of a store.
func askAll(t *testing.T, s *mvcc.Store) {
	t.Helper()
	open := s.Begin()
	for i := range 3 {
		x := s.Begin()
		askTx(t, x)
		for _, n := range numbers() {
			k, ok, e := s.Last(n)
			zero(t, "Last", e, k == "" && !ok)
		}
		x.Put(1, numbered(i, 20), run("v", 2500))
		if i == 1 {
			x.Rollback()
		} else {
			x.Commit()
		}
		askTx(t, x)
		x.Rollback()
		s.Checkpoint()
		if s.Commits() < 0 || s.Versions() < 0 {
			t.Error("fewer than none")
		}
	}
	askTx(t, open)
	open.Commit()
}

// P1
func TestEachCallAnswers(t *testing.T) {
	askAll(t, fresh(t))
	d, _ := grown(t)
	askAll(t, opened(t, d, 8))
	for _, n := range numbers() {
		mvcc.Open(d, n)
		mvcc.Open(nil, n)
	}
}

// P1: on disks that go down, that have crashed, or were cut beneath the store
func TestEachCallAnswersWhateverTheDiskDoes(t *testing.T) {
	base, _ := grown(t)
	for fail := 0; fail < 40; fail += 3 {
		d := twin(t, base)
		s := opened(t, d, 8)
		d.Fail(fail)
		askAll(t, s)
		d.Crash([]int{fail % 3, 1})
		askAll(t, s)
	}
	for cut := range 3 {
		d := twin(t, base)
		s := opened(t, d, 8)
		switch cut {
		case 0:
			is(t, d.Cut(1, 20), api.OK)
		case 1:
			is(t, s.Checkpoint(), api.OK)
			is(t, d.Cut(0, 3000), api.OK)
		case 2:
			d.Fail(0)
			is(t, d.Sync(0), api.ErrDown)
		}
		askAll(t, s)
		if s, e := mvcc.Open(d, 8); e == api.OK {
			askAll(t, s)
		}
	}
}

// forged: a disk whose directory has these entries; page 2 and page 3 are leaves, page 4 is none of a tree.
func forged(t *testing.T, directory ...string) *disk.Disk {
	t.Helper()
	d := disk.New()
	p, e := pool.Open(d, 8)
	is(t, e, api.OK)
	var l []*tree.Tree
	for range 3 {
		n, e := tree.Create(p)
		is(t, e, api.OK)
		l = append(l, tree.Open(p, n))
	}
	for i := 0; i < len(directory); i += 2 {
		is(t, l[0].Put(directory[i], directory[i+1]), api.OK)
	}
	is(t, l[1].Put("a", "1"), api.OK)
	is(t, l[2].Put("a", "2"), api.OK)
	n, e := p.Alloc()
	if n != 4 || e != api.OK {
		t.Fatal(n, e)
	}
	is(t, p.Commit(), api.OK)
	return d
}

// number four bytes long.
func four(n int) string {
	return string([]byte{byte(n >> 24), byte(n >> 16), byte(n >> 8), byte(n)})
}

// P14, P1: a disk whose pages are no store's
func TestOpenOfADiskThatIsDamaged(t *testing.T) {
	for i, w := range [][]string{
		{four(1), four(0)}, {four(1), four(1)}, {four(1), ""}, {four(1), four(2)[1:]}, {four(1), "\x00" + four(2)}, {"\x01", four(2)}, {"\x00" + four(1), four(2)}, {run("\x00", 200), four(2)}, {"\x80\x00\x00\x00", four(2)}, {four(0), four(2), "\xff\xff\xff\xff", four(3)},
	} {
		d := forged(t, w...)
		if s, e := mvcc.Open(d, 8); s != nil || e != api.ErrDamage {
			t.Errorf("row %d: %v", i, e)
		}
	}
	none := disk.New()
	p, e := pool.Open(none, 8)
	is(t, e, api.OK)
	_, e = p.Alloc()
	all(t, api.OK, e, p.Commit())
	if s, e := mvcc.Open(none, 8); s != nil || e != api.ErrDamage {
		t.Errorf("no directory: %v", e)
	}
	cut := disk.New()
	first, e := page.Seal(api.Page{Kind: api.MetaPage})
	is(t, e, api.OK)
	all(t, api.OK, cut.Write(0, 0, first), cut.Write(1, 0, "relstore log 001"+slot(2)))
	if s, e := mvcc.Open(cut, 8); s != nil || e != api.ErrMissing {
		t.Errorf("no page for the directory: %v", e)
	}
}

// P14, P1: tables whose pages are none of a tree's: their calls tell so, and nothing of a commit counts; the other tables go on.
func TestTablesThatAreDamaged(t *testing.T) {
	d := forged(t, four(1), four(2), four(3), four(4), four(5), four(6))
	s := opened(t, d, 8)
	for table, want := range map[int]api.Errno{3: api.ErrDamage, 5: api.ErrMissing} {
		x := s.Begin()
		if v, ok, e := x.Get(table, "a"); v != "" || ok || e != want {
			t.Errorf("Get: %q, %v, %v", v, ok, e)
		}
		if ok, e := x.Delete(table, "a"); ok || e != want || x.Mark() != 0 {
			t.Errorf("Delete: %v, %v", ok, e)
		}
		if l, e := x.Scan(table, "", "", nil); len(l) != 0 || e != want {
			t.Errorf("Scan: %s, %v", told(l), e)
		}
		if l, e := x.Peek(table, "", ""); len(l) != 0 || e != want {
			t.Errorf("Peek: %s, %v", told(l), e)
		}
		noLast(t, s, table, want)
		all(t, api.OK, x.Watch(table, "", "", nil), x.Put(table, "a", "1"), x.Put(1, "b", "1"))
		is(t, x.Commit(), want)
		isOver(t, x)
		left(t, s, "a1")
	}
	counts(t, s, 0, 0)
	commit(t, s, "b", "1")
	left(t, opened(t, d, 8), "a1 b1")
	askAll(t, s)
}

// P14, P1: a commit that meets a free page that is none: nothing of it counts, and the store goes on.
func TestACommitThatMeetsDamage(t *testing.T) {
	d := forged(t, four(1), four(2), four(2), four(3))
	p, e := pool.Open(d, 8)
	is(t, e, api.OK)
	// Page 5 is free, and so is page 4, which is none.
	n, e := p.Alloc()
	all(t, api.OK, e, p.Free(4), p.Free(n), p.Write(4, run("x", 1024)), p.Commit())
	s := opened(t, d, 8)
	for range 2 {
		x := s.Begin()
		all(t, api.OK, x.Put(1, "a", "9"), x.Erase(2, "a"), x.Put(6, "k", "1"), x.Put(7, "k", "1"), x.Put(8, "k", "1"), x.Put(9, "k", "1"))
		is(t, x.Commit(), api.ErrDamage)
		isOver(t, x)
		left(t, s, "a1")
		y := s.Begin()
		for i, want := range []string{"", "a1", "a2", "", "", "", "", "", ""} {
			sees(t, y, i, want)
		}
		is(t, y.Rollback(), api.OK)
	}
	counts(t, s, 0, 0)
	commit(t, s, "b", "1")
	left(t, s, "a1 b1")
	left(t, opened(t, d, 8), "a1 b1")
}

// P1: a condition that panics is not met: the entry is not among those that are scanned, and it may be turned.
func TestConditionsThatPanic(t *testing.T) {
	s := filled(t, "a", "1", "b", "1", "c", "1")
	picky := asked(func(key, value string) bool {
		if key == "b" {
			panic("b")
		}
		return value == "1"
	})
	for _, c := range []struct {
		cond api.Cond
		want string
	}{{picky, "a1 c1"}, {(*prefix)(nil), ""}, {asked(nil), ""}, {asked(func(key, value string) bool { panic(nil) }), ""}} {
		x := s.Begin()
		l, e := x.Scan(1, "", "", c.cond)
		if e != api.OK || listed(l) != c.want {
			t.Errorf("%s, %v; want %s", listed(l), e, c.want)
		}
		is(t, x.Rollback(), api.OK)
	}
	x, y := s.Begin(), s.Begin()
	for _, n := range []*mvcc.Tx{x, y} {
		all(t, api.OK, n.Watch(1, "", "", picky), n.Watch(1, "", "", (*prefix)(nil)), n.Put(2, "k", "v"))
	}
	commit(t, s, "b", "2")
	is(t, x.Commit(), api.OK)
	commit(t, s, "c", "2")
	is(t, y.Commit(), api.ErrConflict)
}

// P1: conditions that call the store themselves
func TestConditionsThatCall(t *testing.T) {
	s := filled(t, "a", "1", "b", "1", "c", "1")
	var x, y *mvcc.Tx
	calls := 0
	c := asked(func(key, value string) bool {
		calls++
		all(t, api.OK, s.Begin().Rollback(), s.Checkpoint())
		x.Put(1, "x"+key, "1")
		x.Get(1, key)
		x.Peek(1, "", "")
		x.Watch(1, "z", "", nil)
		y.Rollback()
		x.BackTo(0)
		if x.Commit() == api.OK {
			t.Error("it was open yet")
		}
		return value == "1"
	})
	x, y = s.Begin(), s.Begin()
	all(t, api.OK, x.Watch(1, "", "", c), x.Put(1, "mine", "1"))
	gets(t, y, "a", "1", true)
	commit(t, s, "a", "2", "d", "1")
	is(t, x.Commit(), api.ErrConflict)
	isOver(t, x)
	isOver(t, y)
	if calls == 0 {
		t.Error("it was not asked")
	}
	counts(t, s, 2, 0)
	left(t, s, "a2 b1 c1 d1")
	// One that ends the transaction that scans.
	x = s.Begin()
	l, e := x.Scan(1, "", "", asked(func(key, value string) bool { x.Rollback(); return true }))
	if e != api.OK || listed(l) != "a2 b1 c1 d1" {
		t.Errorf("%s, %v", listed(l), e)
	}
	isOver(t, x)
}

// P1: many that are never ended
func TestManyOpenTransactions(t *testing.T) {
	s := filled(t, "a", "0")
	var l []*mvcc.Tx
	for i := range 300 {
		l = append(l, s.Begin())
		commit(t, s, "a", numbered(i, 6))
	}
	counts(t, s, 301, 300)
	for i, x := range l {
		want := "0"
		if i > 0 {
			want = numbered(i-1, 6)
		}
		gets(t, x, "a", want, true)
	}
	// Out of their order.
	for i := range l {
		is(t, l[i*7%300].Commit(), api.OK)
	}
	counts(t, s, 301, 0)
}

// P2: texts are made of bytes that the caller turns afterwards; texts that have come out stay.
func TestTextsStay(t *testing.T) {
	d := disk.New()
	s := opened(t, d, 8)
	x := s.Begin()
	key, value := []byte("key"), []byte(run("v", 2500))
	from, to := []byte("a"), []byte("z")
	all(t, api.OK, x.Put(1, string(key), string(value)), x.Erase(1, string(key)+"e"), x.Watch(1, string(from), string(to), nil))
	clear(key)
	clear(value)
	clear(from)
	clear(to)
	gets(t, x, "key", run("v", 2500), true)
	v, _, _ := x.Get(1, "key")
	l, _ := x.Scan(1, "", "", nil)
	is(t, x.Commit(), api.OK)
	k, _, _ := s.Last(1)
	for i := range 20 {
		commit(t, s, "key", run("w", i+1), "later", run("w", i*100))
	}
	if v != run("v", 2500) || k != "key" || len(l) != 1 || l[0] != (api.Entry{Key: "key", Value: v}) {
		t.Error("they are others now")
	}
}

// P2: lists that come out are the caller's, room behind them included.
func TestListsAreNewMemory(t *testing.T) {
	s := fresh(t)
	old := s.Begin()
	for i := range 24 {
		commit(t, s, numbered(i*5%24, 6), run("v", i+1))
		x := s.Begin()
		for j := range i % 4 {
			is(t, x.Put(1, numbered(j*3, 7), "own"), api.OK)
		}
		for _, x := range []*mvcc.Tx{old, x} {
			for _, ask := range []func() ([]api.Entry, api.Errno){
				func() ([]api.Entry, api.Errno) { return x.Peek(1, "", "") },
				func() ([]api.Entry, api.Errno) { return x.Scan(1, "", "", nil) },
				func() ([]api.Entry, api.Errno) { return x.Scan(1, "", "", api.Part{Text: "vv"}) },
			} {
				early, _ := ask()
				was := slices.Clone(early)
				late, _ := ask()
				late = late[:cap(late)]
				for j := range late {
					late[j] = api.Entry{Key: "spoiled", Value: "spoiled"}
				}
				again, e := ask()
				if !slices.Equal(early, was) || !slices.Equal(again, was) || e != api.OK {
					t.Fatal("two lists share memory")
				}
			}
		}
		is(t, x.Rollback(), api.OK)
		if i%8 == 7 {
			old = s.Begin()
		}
	}
}

// P2: stores over two disks know nothing of one another.
func TestTwoStores(t *testing.T) {
	all := scripts(16, 500)
	for i := 0; i < len(all); i += 2 {
		worlds := []*world{made(t), made(t)}
		readers := []*reader{{script: all[i]}, {script: all[i+1]}}
		for len(readers[0].script)+len(readers[1].script) > 0 {
			for j, w := range worlds {
				w.step(t, readers[j])
				worlds[0].holds(t)
				worlds[1].holds(t)
			}
		}
		for _, w := range worlds {
			w.oneBehindTheOther(t)
		}
	}
}
