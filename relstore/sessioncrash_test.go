package relstore_test

import (
	"testing"

	"relstore/api"
	"relstore/disk"
	"relstore/relstore"
)

// turns of several sessions: transactions that overlap, statements by themselves and checkpoints between them; each text has the session's letter ahead.
func turns() []pair {
	makes := "create table u (a integer, b integer, unique (a, b))"
	return []pair{
		{"a:create table t (a integer primary key, b text, c integer default 3 check (c > 0))", "0"},
		{"a:insert into t values (1, 'one', 1), (2, 'two', 2), (3, null, 2)", "3"},
		{"a:begin", "0"},
		{"b:begin", "0"},
		{"a:insert into t values (4, 'four', 4)", "1"},
		{"b:" + makes + "; insert into u values (1, 1)", "0 1"},
		{"a:create index i on t (c)", "0"},
		{"a:commit", "0"},
		{"b:commit", "0"},
		{"a:begin; update t set b = " + quoted(900) + "; delete from t where a = 1; savepoint s; delete from t; rollback to s", "0 4 1 0 3 0"},
		{"c:insert into u values (2, 2)", "1"},
		{"c:checkpoint", "0"},
		{"a:commit", "0"},
		{"b:begin; select * from u; insert into u values (5, 5)", "0 [1 1][2 2] 1"},
		{"c:insert into u values (3, 3)", "1"},
		{"b:commit", "Conflict"},
		{"a:begin; drop index i", "0 0"},
		{"c:insert into t values (7, 'x', 7)", "1"},
		{"b:begin; update t set a = a + 100, b = 'y' where a > 2", "0 3"},
		{"a:commit", "0"},
		{"b:commit", "Conflict"},
		{"b:begin; update t set a = a + 100, b = 'y' where a > 2; drop table u; " + makes + "; insert into u select a, c from t", "0 3 0 0 4"},
		{"b:commit", "0"},
		{"a:begin; delete from t; drop table u; rollback", "0 4 0 0"},
		{"c:checkpoint", "0"},
		{"c:begin; create unique index j on u (b)", "0 Unique"},
		{"c:delete from u where b = 2; create unique index j on u (b); insert into t select a + 1000, b, c from t; commit", "2 0 4 0"},
		{"a:begin; delete from t; savepoint s; drop table t; rollback to s", "0 8 0 0 0"},
		{"a:commit", "0"},
		{"a:checkpoint", "0"},
	}
}

// sessionsOf a store, by their letters.
func sessionsOf(s *relstore.Store) map[byte]*relstore.Session {
	return map[byte]*relstore.Session{'a': s.Session(), 'b': s.Session(), 'c': s.Session()}
}

// turned: what is committed behind each of the turns, ahead of the first one too.
func turned(t *testing.T) []string {
	t.Helper()
	d := disk.New()
	s := opened(t, d, 8)
	c := sessionsOf(s)
	l := []string{state(t, s)}
	for _, x := range turns() {
		does(t, c[x.text[0]], x.text[2:], x.want)
		l = append(l, state(t, s))
		if again := state(t, opened(t, twin(t, d), 8)); again != l[len(l)-1] {
			t.Fatalf("%s: opened anew\n%s\nnot\n%s", short(x.text), again, l[len(l)-1])
		}
		sound(t, d)
	}
	return l
}

// downIn the turns, with a disk that goes down behind so many operations: in which one, if it does.
func downIn(t *testing.T, d *disk.Disk, n int) (int, bool) {
	t.Helper()
	s := opened(t, d, 8)
	c := sessionsOf(s)
	d.Fail(n)
	for i, x := range turns() {
		l := results(t, c[x.text[0]], x.text[2:])
		if r := l[len(l)-1]; r.Err == api.ErrDown {
			if kind := r.Kind; kind == api.Query || kind == api.Begin || kind == api.Savepoint || !d.Down() {
				t.Fatalf("%s: down", short(x.text))
			}
			return i, true
		}
		if d.Down() || told(l) != x.want {
			t.Fatalf("%s: %s", short(x.text), told(l))
		}
	}
	return 0, false
}

// P22: behind each operation of the disk, and with each way of keeping: what was committed is there, and of the commit in which it went down all or nothing.
func TestCrashesOfSessions(t *testing.T) {
	t.Parallel()
	l := turned(t)
	both := 0
	for n := 0; ; n++ {
		for _, keep := range keeps() {
			d := disk.New()
			at, down := downIn(t, d, n)
			if !down {
				if n < 60 || both == 0 {
					t.Errorf("%d operations; %d times all of a commit was there that had not been told", n, both)
				}
				return
			}
			d.Crash(keep)
			other := twin(t, d)
			got := state(t, opened(t, d, 9))
			if got != l[at] && got != l[at+1] {
				t.Fatalf("behind %d operations, in %s, keeping %v:\n%s\nnot\n%s\nor\n%s", n, short(turns()[at].text), keep, got, l[at], l[at+1])
			}
			if got != l[at] {
				both++
			}
			if again := state(t, opened(t, other, 8)); again != got {
				t.Fatalf("behind %d operations: another disk tells\n%s\nnot\n%s", n, again, got)
			}
			sound(t, d)
		}
	}
}

// P22: a commit of so many pages that the log comes to its places in it, too.
func TestCrashesOfLargeCommit(t *testing.T) {
	t.Parallel()
	base := disk.New()
	c := opened(t, base, 8).Session()
	digits(t, c)
	does(t, c, "create table t (a integer primary key, b text); insert into t select x.a + 10 * y.a + 100 * z.a, '"+run("y", 900)+"' from n x, n y, n z where z.a < 3", "0 300")
	for len(fileOf(t, base, 1)) < 600*api.PageSize {
		does(t, c, "update t set b = b || 'z' where a < 100", "100")
	}
	const large = "begin; update t set b = lower(b), a = a + 1; delete from t where a > 280; insert into t select a + 1000, 'new' from n; commit"
	ask := "select count(*), sum(a), min(b), max(b) from t"
	before := told(results(t, c, ask))
	count := func(d *disk.Disk) int {
		n := d.Count()
		does(t, opened(t, d, 8).Session(), large, "0 300 20 10 0")
		return d.Count() - n
	}
	done := twin(t, base)
	all := count(done)
	after := told(results(t, opened(t, done, 8).Session(), ask))
	if size := len(fileOf(t, done, 0)); size < 300*api.PageSize {
		t.Errorf("the pages did not come to their places: %d bytes", size)
	}
	lost, kept := 0, 0
	for n := 0; n < all; n += 1 + n/9 + (all-n)/9 {
		for _, keep := range keeps()[:4] {
			d := twin(t, base)
			s := opened(t, d, 8)
			d.Fail(n)
			if l := results(t, s.Session(), large); l[len(l)-1].Err != api.ErrDown || l[len(l)-1].Kind != api.Commit {
				t.Fatalf("behind %d operations: %s", n, told(l))
			}
			d.Crash(keep)
			switch got := told(results(t, opened(t, d, 8).Session(), ask)); got {
			case before:
				lost++
			case after:
				kept++
			default:
				t.Fatalf("behind %d operations, keeping %v: %s", n, keep, got)
			}
		}
	}
	if lost == 0 || kept == 0 || before == after {
		t.Errorf("%d lost, %d kept", lost, kept)
	}
}

// crashed: the disk went down in a step, and keeps of what waits what it may: all of this step's is there, or nothing.
func (p *player) crashed(before *model) {
	p.t.Helper()
	var keep []int
	for range p.m.r.Intn(6) {
		keep = append(keep, p.m.r.Intn(4))
	}
	p.d.Crash(keep)
	p.reopen()
	if !is(p.t, p.store, p.by.now) {
		if !is(p.t, p.store, before) {
			p.t.Fatalf("seed %d: neither what was, nor what should be, keeping %v", p.seed, keep)
		}
		p.by.now = before
		p.count["lost"]++
		return
	}
	p.count["kept"]++
}

// P22: histories of several sessions, in which the disk goes down time and again.
func TestCrashHistories(t *testing.T) {
	t.Parallel()
	count := map[string]int{}
	for seed := range int64(60) {
		crashHistory(t, seed, count)
	}
	if count["lost"] < 20 || count["kept"] < 20 {
		t.Errorf("%v", count)
	}
}

func crashHistory(t testing.TB, seed int64, count map[string]int) {
	t.Helper()
	p := newPlayer(t, seed, count)
	for range 6 {
		p.d.Fail(p.m.r.Intn(80))
		for range 100 {
			before := p.by.now
			if !p.step() {
				p.crashed(before)
				break
			}
		}
		p.d.Fail(-1)
		sound(t, p.d)
	}
}

func FuzzSessions(f *testing.F) {
	for seed := range int64(3) {
		f.Add(1000 + seed)
	}
	f.Fuzz(func(t *testing.T, seed int64) {
		sessionHistory(t, seed, map[string]int{})
		crashHistory(t, seed, map[string]int{})
	})
}
