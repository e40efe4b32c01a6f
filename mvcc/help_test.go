package mvcc_test

import (
	"strconv"
	"strings"
	"testing"

	"relstore/api"
	"relstore/disk"
	"relstore/mvcc"
)

// run: a text of so many bytes.
func run(s string, n int) string { return strings.Repeat(s, n) }

// numbered: a text of so many bytes that begins with a number.
func numbered(n, size int) string {
	s := strconv.Itoa(100000 + n)
	return s + run(".", size-len(s))
}

// is: was this the answer?
func is(t *testing.T, e, want api.Errno) {
	t.Helper()
	if e != want {
		t.Fatalf("answer %v, want %v", e, want)
	}
}

// all of these answers must be the same.
func all(t *testing.T, want api.Errno, l ...api.Errno) {
	t.Helper()
	for i, e := range l {
		if e != want {
			t.Fatalf("call %d: answer %v, want %v", i, e, want)
		}
	}
}

// short form of a text.
func short(s string) string {
	if len(s) > 30 {
		return strconv.Quote(s[:12]) + " .. (" + strconv.Itoa(len(s)) + " bytes)"
	}
	return strconv.Quote(s)
}

// told: entries in short form.
func told(l []api.Entry) string {
	s := strconv.Itoa(len(l)) + " entries"
	for i, x := range l {
		if i == 20 {
			return s + " .."
		}
		s += " " + short(x.Key) + "=" + short(x.Value)
	}
	return s
}

// opened: a store that must be opened.
func opened(t *testing.T, d *disk.Disk, frames int) *mvcc.Store {
	t.Helper()
	s, e := mvcc.Open(d, frames)
	if e != api.OK || s == nil {
		t.Fatalf("Open: %v", e)
	}
	return s
}

// fresh store on a disk of its own.
func fresh(t *testing.T) *mvcc.Store {
	t.Helper()
	return opened(t, disk.New(), 8)
}

// commit puts: keys of table 1 and their values, by turns; an empty value stands for an entry that is erased.
func commit(t *testing.T, s *mvcc.Store, l ...string) {
	t.Helper()
	x := s.Begin()
	for i := 0; i < len(l); i += 2 {
		if l[i+1] == "" {
			is(t, x.Erase(1, l[i]), api.OK)
		} else {
			is(t, x.Put(1, l[i], l[i+1]), api.OK)
		}
	}
	is(t, x.Commit(), api.OK)
}

// filled: a fresh store with entries of table 1.
func filled(t *testing.T, l ...string) *mvcc.Store {
	t.Helper()
	s := fresh(t)
	commit(t, s, l...)
	return s
}

// listed: entries as a text, each key with its value.
func listed(l []api.Entry) string {
	var s []string
	for _, n := range l {
		s = append(s, n.Key+n.Value)
	}
	return strings.Join(s, " ")
}

// sees: what a transaction sees of a table.
func sees(t *testing.T, x *mvcc.Tx, table int, want string) {
	t.Helper()
	l, e := x.Peek(table, "", "")
	if e != api.OK || listed(l) != want {
		t.Fatalf("it sees %q (%v), want %q", listed(l), e, want)
	}
}

// left: what a store has in table 1 by the last commit. The transaction that looks is over behind it.
func left(t *testing.T, s *mvcc.Store, want string) {
	t.Helper()
	x := s.Begin()
	sees(t, x, 1, want)
	is(t, x.Rollback(), api.OK)
}

// gets an entry of table 1.
func gets(t *testing.T, x *mvcc.Tx, key, value string, there bool) {
	t.Helper()
	if v, ok, e := x.Get(1, key); v != value || ok != there || e != api.OK {
		t.Fatalf("Get(%s): %s, %v, %v; want %s, %v", short(key), short(v), ok, e, short(value), there)
	}
}

// deletes an entry of table 1.
func deletes(t *testing.T, x *mvcc.Tx, key string, want bool) {
	t.Helper()
	if ok, e := x.Delete(1, key); ok != want || e != api.OK {
		t.Fatalf("Delete(%s): %v, %v; want %v", short(key), ok, e, want)
	}
}

// lasts: the greatest key of a table.
func lasts(t *testing.T, s *mvcc.Store, table int, key string) {
	t.Helper()
	if k, ok, e := s.Last(table); k != key || ok != (key != "") || e != api.OK {
		t.Fatalf("Last(%d): %s, %v, %v; want %s", table, short(k), ok, e, short(key))
	}
}

// counts: what Commits and Versions tell.
func counts(t *testing.T, s *mvcc.Store, commits, versions int) {
	t.Helper()
	if s.Commits() != commits || s.Versions() != versions {
		t.Fatalf("Commits %d, Versions %d; want %d, %d", s.Commits(), s.Versions(), commits, versions)
	}
}

// fileOf a disk.
func fileOf(t *testing.T, d *disk.Disk, f int) string {
	t.Helper()
	n, e := d.Size(f)
	is(t, e, api.OK)
	s, e := d.Read(f, 0, n)
	is(t, e, api.OK)
	return s
}

// twin of a disk: another one with the same files, which last.
func twin(t *testing.T, d *disk.Disk) *disk.Disk {
	t.Helper()
	c := disk.New()
	for f := range 2 {
		is(t, c.Write(f, 0, fileOf(t, d, f)), api.OK)
		is(t, c.Sync(f), api.OK)
	}
	return c
}

// prefix is the condition that a key begins so; as a pointer that may be nil it panics.
type prefix struct{ text string }

func (p *prefix) Meets(key, value string) bool { return strings.HasPrefix(key, p.text) }

// asked: a condition that is a function.
type asked func(key, value string) bool

func (f asked) Meets(key, value string) bool { return f(key, value) }
