package relstore_test

import (
	"math"
	"math/rand"
	"slices"
	"testing"

	"relstore/api"
	"relstore/disk"
	"relstore/mvcc"
	"relstore/relstore"
	"relstore/value"
)

// P20: Open's arguments.
func TestOpenRefuses(t *testing.T) {
	for _, frames := range []int{math.MinInt, -1, 0, 7, 65, 1000, math.MaxInt} {
		d := disk.New()
		if s, e := relstore.Open(d, frames); s != nil || e != api.ErrArg {
			t.Errorf("%d frames: %v", frames, e)
		}
		if d.Count() != 0 {
			t.Errorf("%d frames: %d operations", frames, d.Count())
		}
		if s, e := relstore.Open(nil, frames); s != nil || e != api.ErrArg {
			t.Errorf("no disk, %d frames: %v", frames, e)
		}
	}
	if s, e := relstore.Open(nil, 8); s != nil || e != api.ErrArg {
		t.Error(e)
	}
	for _, frames := range []int{8, 9, 33, 64} {
		does(t, opened(t, disk.New(), frames).Session(), "create table t (a integer); insert into t values (1); select * from t", "0 1 [1]")
	}
}

// tells: statements of all kinds, by themselves and in a transaction, whatever they answer.
func tells(c *relstore.Session) {
	texts := []string{
		"select * from t", "select * from t where a = 1", "select * from t where b = 'x' and a = 1", "select count(*) from t x, t y where x.a = y.a", "insert into t values (1, 'x')", "insert into t (a) values (2)", "update t set a = a + 1", "savepoint s", "delete from t where a = 2",
		"create index k on t (b)", "create unique index l on t (a)", "drop index i", "drop index k", "create table t (a integer)", "create table w (a integer)", "drop table t", "rollback to s", "drop table w", "checkpoint", "release s", "rollback to s", "select", "",
	}
	for _, ahead := range []string{"", "begin", "rollback", "begin"} {
		c.Exec(ahead)
		for _, text := range texts {
			c.Exec(text)
		}
		c.Exec("commit")
	}
}

// P1: whatever the texts are.
func TestAnyText(t *testing.T) {
	c := fresh(t)
	does(t, c, "create table t (a integer primary key, b text); create index i on t (b)", "0 0")
	r := rand.New(rand.NewSource(1))
	words := []string{"select", "from", "t", "insert", "into", "values", "(", ")", ",", "*", "1", "'x'", "a", "b", "where", "=", "update", "set", "delete", "create", "table", "index", "on", "drop", "begin", "commit", "savepoint", ";", "integer", "unique", "null", "i", "\x00", "\"", "'", "--", "/*", "\xff"}
	for range 20000 {
		s := ""
		for range 1 + r.Intn(12) {
			s += words[r.Intn(len(words))] + " "
		}
		l, e, _ := c.Exec(s)
		if e != api.OK && len(l) > 0 {
			t.Fatalf("%s: %d results with %v", s, len(l), e)
		}
	}
	tells(c)
}

// forged: a disk whose catalog has these entries, and whose tables of entries 1 to 4 have some that are no rows, too.
func forged(t *testing.T, entries ...api.Entry) *disk.Disk {
	t.Helper()
	d := disk.New()
	s, e := mvcc.Open(d, 8)
	if e != api.OK {
		t.Fatal(e)
	}
	x := s.Begin()
	for _, n := range entries {
		x.Put(0, n.Key, n.Value)
	}
	for table := 1; table <= 4; table++ {
		for _, n := range []api.Entry{{Key: "x", Value: "y"}, {Key: key(number(1)), Value: "\x01\x02"}, {Key: key(number(2)), Value: packed(number(1))}, {Key: key(number(3)), Value: packed(text("x"), number(1))}, {Key: key(text("x")), Value: packed(number(1), text("x"))}, {Key: key(), Value: ""}} {
			if n.Key != "" {
				x.Put(table, n.Key, n.Value)
			}
		}
	}
	if e := x.Commit(); e != api.OK {
		t.Fatal(e)
	}
	return d
}

func number(n int64) api.Value { return api.Value{Kind: api.Int, N: n} }

func text(s string) api.Value { return api.Value{Kind: api.Text, S: s} }

func truth(n int64) api.Value { return api.Value{Kind: api.Bool, N: n} }

func key(l ...api.Value) string { return value.Key(l) }

func packed(l ...api.Value) string {
	s, _ := value.Pack(l)
	return s
}

// P1: whatever the bytes of the disk are.
func TestForgedDisks(t *testing.T) {
	t.Parallel()
	name := text("t")
	head := api.Entry{Key: key(name), Value: packed(number(1))}
	made := api.Entry{Key: key(name, truth(0), number(0)), Value: "create table t (a integer primary key, b text)"}
	index := func(l ...api.Value) api.Entry {
		return api.Entry{Key: key(name, truth(1), number(3)), Value: packed(l...)}
	}
	damaged := [][]api.Entry{
		{{Key: "x", Value: "y"}}, {{Key: key(number(1)), Value: "y"}}, {head}, {made}, {{Key: key(name), Value: ""}, made}, {{Key: key(name), Value: packed()}, made}, {{Key: key(name), Value: packed(text("x"))}, made},
		{{Key: key(name), Value: packed(number(0))}, made}, {{Key: key(name), Value: packed(number(-1))}, made}, {{Key: key(name), Value: packed(number(math.MaxInt32 + 1))}, made}, {{Key: key(name), Value: packed(number(math.MaxInt64))}, made},
		{head, {Key: made.Key, Value: "select 1"}}, {head, {Key: made.Key, Value: "create table t (a integer, a text)"}}, {head, {Key: made.Key, Value: "create table t (a integer); select 1"}}, {head, {Key: made.Key, Value: "create"}}, {head, {Key: made.Key, Value: ""}},
		{head, made, {Key: key(name, truth(1)), Value: ""}}, {head, made, {Key: key(name, truth(1), text("x")), Value: packed(text("i"), truth(0), number(0))}},
		{head, made, index()}, {head, made, index(text("i"))}, {head, made, index(text("i"), truth(1), number(2))}, {head, made, index(text("i"), truth(1), number(-1))},
	}
	odd := [][]api.Entry{
		{{Key: key(name), Value: packed(number(math.MaxInt32))}, made}, {head, {Key: made.Key, Value: "create table u (a integer)"}}, {head, made}, {head, made, {Key: key(name, number(1)), Value: ""}},
		{head, made, index(text("i"), truth(1), number(1))}, {head, made, index(text("i"), truth(1))}, {head, made, index(number(1), number(1), text("x"))},
		{head, made, {Key: key(text("u")), Value: packed(number(1))}, {Key: key(text("u"), truth(0), number(0)), Value: "create table u (a integer)"}},
	}
	for i, l := range slices.Concat(damaged, odd) {
		s, e := relstore.Open(forged(t, l...), 8)
		if (s == nil) != (e != api.OK) || i < len(damaged) && e != api.ErrDamage {
			t.Errorf("%d: %v with %v", i, s, e)
		}
		if s != nil {
			tells(s.Session())
		}
	}
}

// Rows that are none, in a table that is one.
func TestForgedRows(t *testing.T) {
	head := api.Entry{Key: key(text("t")), Value: packed(number(9))}
	made := api.Entry{Key: key(text("t"), truth(0), number(0)), Value: "create table t (a integer primary key, b text)"}
	for i, row := range []api.Entry{
		{Key: "x", Value: packed(number(1), text("x"))}, {Key: key(number(1)), Value: "x"}, {Key: key(number(1)), Value: ""}, {Key: key(number(1)), Value: packed()}, {Key: key(number(1)), Value: packed(number(1))}, {Key: key(number(1)), Value: packed(number(1), text("x"), number(1))}, {Key: key(number(1)), Value: packed(text("x"), text("x"))}, {Key: key(number(1)), Value: packed(number(1), truth(1))},
	} {
		d := forged(t, head, made)
		s := opened(t, d, 8)
		does(t, s.Session(), "select * from t", "-")
		m, _ := mvcc.Open(d, 8)
		x := m.Begin()
		x.Put(9, row.Key, row.Value)
		if e := x.Commit(); e != api.OK {
			t.Fatal(e)
		}
		s, e := relstore.Open(d, 8)
		if e != api.OK {
			continue
		}
		for _, text := range []string{"select * from t", "update t set b = 'y'", "delete from t", "create index i on t (b)", "drop table t"} {
			if got := told(results(t, s.Session(), text)); got != "Damage" {
				t.Errorf("%d: %s: %s", i, text, got)
			}
		}
	}
}

// A row for which there is no number any more is refused behind others that were written: these are gone, too, and the transaction is open.
func TestNoMoreNumbers(t *testing.T) {
	d := disk.New()
	m, _ := mvcc.Open(d, 8)
	x := m.Begin()
	x.Put(0, key(text("t")), packed(number(9)))
	x.Put(0, key(text("t"), truth(0), number(0)), "create table t (a integer)")
	x.Put(9, key(number(math.MaxInt64-3)), packed(number(1)))
	if e := x.Commit(); e != api.OK {
		t.Fatal(e)
	}
	c := opened(t, d, 8).Session()
	doesAll(t, c, pair{"begin; insert into t values (2)", "0 1"}, pair{"insert into t values (3), (4), (5)", "Large"}, pair{"select * from t; update t set a = a + 1; commit; select * from t", "[1][2] 2 0 [2][3]"}, pair{"insert into t values (4)", "Large"})
	c = opened(t, d, 8).Session()
	doesAll(t, c, pair{"insert into t values (3), (4), (5)", "Large"}, pair{"select * from t", "[2][3]"})
}

// P1: bytes of a store of which some were turned.
func TestSpoiltDisks(t *testing.T) {
	t.Parallel()
	d := disk.New()
	c := opened(t, d, 8).Session()
	does(t, c, "create table t (a integer primary key, b text, c boolean check (c)); create index i on t (c); insert into t values (1, 'x', true), (2, "+quoted(900)+", null); checkpoint; insert into t values (3, 'y', true)", "0 0 2 0 1")
	r := rand.New(rand.NewSource(7))
	for range 1500 {
		other := twin(t, d)
		for range 1 + r.Intn(4) {
			f := r.Intn(2)
			size := len(fileOf(t, other, f))
			if r.Intn(8) == 0 {
				other.Cut(f, r.Intn(size+1))
			} else if size > 0 {
				other.Write(f, r.Intn(size), string(rune(r.Intn(128))))
			}
		}
		s, e := relstore.Open(other, 8)
		if (s == nil) != (e != api.OK) {
			t.Fatalf("%v with %v", s, e)
		}
		if s != nil {
			tells(s.Session())
		}
	}
}

// spoil all that a result has.
func spoil(l []api.Result) {
	for i := range l {
		r := &l[i]
		for _, row := range r.Rows[:cap(r.Rows)] {
			for k := range row[:cap(row)] {
				row[:cap(row)][k] = api.Value{Kind: 99, N: 99, S: "spoilt"}
			}
		}
		for k := range r.Columns[:cap(r.Columns)] {
			r.Columns[:cap(r.Columns)][k] = api.Column{Name: "spoilt", Kind: 99}
		}
		clear(r.Rows[:cap(r.Rows)])
	}
	clear(l[:cap(l)])
}

// P2: what comes out is new memory.
func TestMemory(t *testing.T) {
	s := opened(t, disk.New(), 8)
	c := s.Session()
	does(t, c, "create table t (a integer primary key, b text default 'x'); insert into t (a) values (1), (2), (3)", "0 3")
	texts := []string{"select * from t", "select b, a from t where a = 2", "select *, * from t", "select a from t union all select a from t", "select max(a), min(b) from t", "select b from t where a in (1, 2); select t.* from t left join t u on false"}
	var wants []string
	for _, text := range texts {
		wants = append(wants, told(results(t, c, text)))
	}
	for _, ahead := range []string{"rollback", "begin", "savepoint s"} {
		results(t, c, ahead)
		for i, text := range texts {
			l := results(t, c, text)
			rows := map[*api.Value]int{}
			for _, r := range l {
				for _, row := range r.Rows {
					rows[&row[0]]++
				}
			}
			for _, n := range rows {
				if n > 1 {
					t.Errorf("%s: rows that are one", text)
				}
			}
			if told(l) != wants[i] {
				t.Errorf("%s: %s", text, told(l))
			}
			spoil(l)
		}
		results(t, c, "insert into t (a) select max(a) + 1 from t; delete from t where a > 3")
	}
}

// P2: two stores over two disks know nothing of one another.
func TestTwoStores(t *testing.T) {
	a, b := fresh(t), fresh(t)
	does(t, a, "create table t (a integer); insert into t values (1)", "0 1")
	does(t, b, "select * from t", "Missing")
	does(t, b, "create table t (b text); create index i on t (b); insert into t values ('x')", "0 0 1")
	does(t, a, "create index i on t (a); select * from t where a = 1", "0 [1]")
	does(t, b, "drop table t", "0")
	does(t, a, "select * from t where a = 1; drop index i", "[1] 0")
	// Nor do their transactions.
	does(t, a, "begin; savepoint s; select * from t; insert into t values (2)", "0 0 [1] 1")
	does(t, b, "commit", "State")
	does(t, b, "begin; rollback to s", "0 Missing")
	does(t, b, "create table t (a integer); insert into t values (1); commit; delete from t", "0 1 0 1")
	does(t, a, "commit; select * from t", "0 [1][2]")
}

func FuzzExec(f *testing.F) {
	for _, s := range script() {
		f.Add(s)
	}
	f.Add("begin; insert into t values (3, 'y'); savepoint s; delete from t; rollback to s; release s; commit; rollback")
	f.Fuzz(func(t *testing.T, text string) {
		c := fresh(t)
		does(t, c, "create table t (a integer primary key, b text); insert into t values (1, 'x'), (2, null)", "0 2")
		l, e, at := c.Exec(text)
		if e != api.OK && len(l) > 0 || e == api.OK && at != 0 {
			t.Fatal(l, e, at)
		}
		for _, r := range l {
			bare(t, r)
		}
	})
}
