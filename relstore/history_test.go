package relstore_test

import (
	"math/rand"
	"slices"
	"strconv"
	"testing"

	"relstore/api"
	"relstore/disk"
	"relstore/relstore"
	"relstore/sql"
)

// player: several sessions of one store, and the world that they are held against.
type player struct {
	t        testing.TB
	seed     int64
	m        *maker
	d        *disk.Disk
	store    *relstore.Store
	sessions []*relstore.Session
	by       *world
	open     map[int]*record
	done     []*record
	writers  int // how many transactions were committed that did something
	count    map[string]int
}

// record of a transaction: what was told to it, and what came.
type record struct {
	texts   []string
	results []api.Result
	at      int // how many of those that did something stand ahead of it
	did     bool
}

func newPlayer(t testing.TB, seed int64, count map[string]int) *player {
	p := &player{t: t, seed: seed, m: &maker{r: rand.New(rand.NewSource(seed))}, d: disk.New(), by: newWorld(), count: count}
	p.reopen()
	return p
}

// reopen the store: all transactions that are open are lost.
func (p *player) reopen() {
	p.store = opened(p.t, p.d, 8+p.m.r.Intn(10))
	p.sessions, p.open = nil, map[int]*record{}
	clear(p.by.open)
	for range 3 {
		p.sessions = append(p.sessions, p.store.Session())
	}
}

// steering: a statement of transactions; those that may be are told more often.
func (p *player) steering(isOpen bool) string {
	point := pick(p.m, "s", "s", "p")
	if p.m.oneIn(15) {
		return pick(p.m, "begin", "commit", "rollback", "savepoint "+point, "release "+point, "rollback to "+point, "checkpoint")
	}
	if !isOpen {
		return pick(p.m, "begin", "begin", "begin", "checkpoint")
	}
	return pick(p.m, "commit", "commit", "commit", "commit", "commit", "commit", "commit", "commit", "rollback", "savepoint "+point, "savepoint "+point, "savepoint "+point, "rollback to "+point, "rollback to "+point, "release "+point)
}

// text for a session.
func (p *player) text(session int) string {
	if p.m.oneIn(3) {
		return p.steering(p.by.open[session] != nil)
	}
	return p.m.bounded(p.by.sees(session), pick(p.m, p.m.small, p.m.small, p.m.small, p.m.statement))
}

func (p *player) fail(text string, got []api.Result, want api.Result) {
	p.t.Helper()
	p.t.Fatalf("seed %d: %s:\n%s\nnot\n%s", p.seed, short(text), short(told(got)), short(told([]api.Result{want})))
}

// step of any session: false, if the disk went down in it.
func (p *player) step() bool {
	k := p.m.r.Intn(len(p.sessions))
	return p.tell(k, p.text(k))
}

// tell a session something.
func (p *player) tell(k int, text string) bool {
	l, e, _ := sql.Parse(text)
	if e != api.OK || len(l) != 1 {
		p.t.Fatalf("%s: %v", text, e)
	}
	wasOpen := p.by.open[k] != nil
	since := wasOpen && len(p.by.commits) > p.by.open[k].began
	want, over := p.by.do(k, l[0])
	got := results(p.t, p.sessions[k], text)
	if len(got) == 1 && got[0].Err == api.ErrDown && p.d.Down() {
		return false
	}
	if len(got) != 1 || !same(got[0], want) {
		p.fail(text, got, want)
	}
	bare(p.t, got[0])
	p.note(k, text, got[0], wasOpen, over)
	if l[0].Kind == api.Commit && wasOpen {
		p.count["commit "+errorName(want.Err)]++
		if since && want.Err == api.OK && over.did > 0 {
			p.count["no conflict"]++
		}
	}
	p.versions()
	return true
}

// note what was told to a transaction.
func (p *player) note(session int, text string, got api.Result, wasOpen bool, over *trial) {
	if !wasOpen {
		p.open[session] = &record{at: p.writers}
	}
	r := p.open[session]
	r.texts, r.results = append(r.texts, text), append(r.results, got)
	if over != nil {
		// A statement that was refused by itself has read, too.
		r.did = over.did > 0 && got.Err == api.OK
		if r.did {
			r.at = p.writers
			p.writers++
		}
		p.done = append(p.done, r)
	}
	if p.by.open[session] == nil {
		delete(p.open, session)
	}
}

// versions: are older values kept just for those that may need them?
func (p *player) versions() {
	p.t.Helper()
	needed := false
	for _, x := range p.by.open {
		needed = needed || x.began < len(p.by.commits)
	}
	if (p.store.Versions() > 0) != needed {
		p.t.Fatalf("seed %d: %d versions", p.seed, p.store.Versions())
	}
}

// probes: statements that tell all of a database, and do nothing.
func probes() []string {
	return []string{
		"select * from t", "select * from u", "select * from v",
		"create index i on nothing (a)", "create index j on nothing (a)", "create index k on nothing (a)",
		"create table t (a integer, a integer)", "create table u (a integer, a integer)", "create table v (a integer, a integer)",
	}
}

// is: does a store tell just what a model has?
func is(t testing.TB, s *relstore.Store, m *model) bool {
	t.Helper()
	for _, text := range probes() {
		l, _, _ := sql.Parse(text)
		if got := results(t, s.Session(), text); !same(got[0], m.do(l[0])) {
			return false
		}
	}
	return true
}

// serial: the transactions that were committed, one behind the other: those that did something in the order of their commits, the others where they began.
func (p *player) serial() []*record {
	l := slices.Clone(p.done)
	slices.SortStableFunc(l, func(a, b *record) int {
		if a.at != b.at {
			return a.at - b.at
		}
		if a.did == b.did {
			return 0
		}
		if b.did {
			return -1
		}
		return 1
	})
	return l
}

// again: the same transactions, one behind the other over an empty database, answer as they did, and leave the same.
func (p *player) again() {
	p.t.Helper()
	s := opened(p.t, disk.New(), 8)
	c := s.Session()
	for _, r := range p.serial() {
		for i, text := range r.texts {
			if got := results(p.t, c, text); len(got) != 1 || !same(got[0], r.results[i]) {
				p.fail("one behind the other: "+text, got, r.results[i])
			}
		}
	}
	if !is(p.t, s, p.by.now) {
		p.t.Fatalf("seed %d: one behind the other they leave something else", p.seed)
	}
}

// P21, P23: many histories of several sessions, held against the world and against themselves, one transaction behind the other.
func TestSessionHistories(t *testing.T) {
	t.Parallel()
	count := map[string]int{}
	for seed := range int64(300) {
		sessionHistory(t, seed, count)
	}
	for what, least := range map[string]int{"commit OK": 1000, "commit Conflict": 100, "no conflict": 100} {
		if count[what] < least {
			t.Errorf("just %d times: %s", count[what], what)
		}
	}
}

func sessionHistory(t testing.TB, seed int64, count map[string]int) {
	t.Helper()
	p := newPlayer(t, seed, count)
	p.tell(0, "create table t (a integer, b integer, c text unique)")
	p.tell(0, "insert into t values (0, 0, 'x'), (1, 1, null), (2, 1, 'y'), (3, null, null)")
	p.tell(0, "create table u (a integer primary key, b text)")
	for range 150 {
		p.step()
		if p.m.oneIn(80) {
			p.reopen()
		}
	}
	sound(t, p.d)
	if !is(t, p.store, p.by.now) || !is(t, opened(t, twin(t, p.d), 8), p.by.now) {
		t.Fatalf("seed %d: something else is left", seed)
	}
	p.again()
}

// transfer of an amount between two accounts, as a transaction.
type transfer struct {
	c    *relstore.Session
	left []string // what is to be told yet
}

// P23: many sessions that overlap, over more pages than are in memory: what is moved from account to account is never lost, and nobody sees just half of it.
func TestTransfers(t *testing.T) {
	t.Parallel()
	const accounts, each = 120, 50
	r := rand.New(rand.NewSource(5))
	d := disk.New()
	s := opened(t, d, 8)
	c := s.Session()
	digits(t, c)
	does(t, c, "create table acc (id integer primary key, bal integer not null check (bal >= 0), pad text); create index b on acc (bal); insert into acc select x.a + 10 * y.a + 100 * z.a, 50, '"+run("p", 400)+"' from n x, n y, n z where z.a < 2 and x.a + 10 * y.a + 100 * z.a < 120", "0 0 120")
	all := "[" + strconv.Itoa(accounts*each) + "]"
	var open []*transfer
	for range 25 {
		open = append(open, &transfer{c: s.Session()})
	}
	count := map[string]int{}
	for range 4000 {
		x := pick(&maker{r: r}, open...)
		if len(x.left) == 0 {
			i, j, n := strconv.Itoa(r.Intn(accounts)), strconv.Itoa(r.Intn(accounts)), strconv.Itoa(r.Intn(40))
			x.left = []string{"begin", "update acc set bal = bal - " + n + " where id = " + i, "update acc set bal = bal + " + n + " where id = " + j, "commit"}
			if r.Intn(12) == 0 {
				x.left = []string{"begin", "select sum(bal) from acc", "select count(*) from acc where bal = 50", "select sum(bal) from acc", "commit"}
			}
		}
		text := x.left[0]
		x.left = x.left[1:]
		got := told(results(t, x.c, text))
		switch {
		case got == "Check":
			results(t, x.c, "rollback")
			x.left = nil
			count[got]++
		case text == "commit":
			count[got]++
		case text == "select sum(bal) from acc" && got != all:
			t.Fatalf("%s: %s", text, got)
		}
	}
	if count["0"] < 300 || count["Conflict"] < 50 || count["Check"] < 20 {
		t.Errorf("%v", count)
	}
	does(t, c, "select sum(bal) from acc; select count(*) from acc", all+" [120]")
	does(t, opened(t, twin(t, d), 8).Session(), "select sum(bal) from acc; select count(*) from acc", all+" [120]")
	sound(t, d)
}
