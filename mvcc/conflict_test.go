package mvcc_test

import (
	"strings"
	"testing"

	"relstore/api"
	"relstore/mvcc"
	"relstore/plain"
)

// look: one way to read, or not to; which keys of table 1 are read by it, and what their values must have in them.
type look struct {
	name string
	do   func(x *mvcc.Tx) api.Errno
	keys string
	part string
}

func getting(key string) look {
	return look{"Get " + key, func(x *mvcc.Tx) api.Errno { _, _, e := x.Get(1, key); return e }, key, ""}
}

func deleting(key string) look {
	return look{"Delete " + key, func(x *mvcc.Tx) api.Errno { _, e := x.Delete(1, key); return e }, key, ""}
}

func scanning(from, to, part, keys string) look {
	return look{"Scan " + from + "-" + to + " " + part, func(x *mvcc.Tx) api.Errno {
		_, e := x.Scan(1, from, to, condOf(reading{part: part}))
		return e
	}, keys, part}
}

func watching(from, to, part, keys string) look {
	return look{"Watch " + from + "-" + to + " " + part, func(x *mvcc.Tx) api.Errno {
		return x.Watch(1, from, to, condOf(reading{part: part}))
	}, keys, part}
}

// looks of all kinds. Keys are a to f; a and b have the value 0, c and d have 1, e and f are not there.
func looks() []look {
	l := []look{
		{"nothing", func(x *mvcc.Tx) api.Errno { return api.OK }, "", ""},
		{"Peek", func(x *mvcc.Tx) api.Errno { _, e := x.Peek(1, "", ""); return e }, "", ""},
		{"Put", func(x *mvcc.Tx) api.Errno { return x.Put(1, "a", "7") }, "", ""},
		{"Erase", func(x *mvcc.Tx) api.Errno { return x.Erase(1, "a") }, "", ""},
		{"Get elsewhere", func(x *mvcc.Tx) api.Errno { _, _, e := x.Get(2, "a"); return e }, "", ""},
		{"Scan elsewhere", func(x *mvcc.Tx) api.Errno { _, e := x.Scan(0, "", "", nil); return e }, "", ""},
		{"Watch elsewhere", func(x *mvcc.Tx) api.Errno { return x.Watch(2, "", "", nil) }, "", ""},
		{"Get behind Put", func(x *mvcc.Tx) api.Errno { x.Put(1, "a", "7"); _, _, e := x.Get(1, "a"); return e }, "a", ""},
		{"Delete behind Put", func(x *mvcc.Tx) api.Errno { x.Put(1, "e", "7"); _, e := x.Delete(1, "e"); return e }, "e", ""},
		{"Scan behind Erase", func(x *mvcc.Tx) api.Errno { x.Erase(1, "c"); _, e := x.Scan(1, "b", "d", nil); return e }, "bc", ""},
		{"Get ahead of BackTo", func(x *mvcc.Tx) api.Errno { x.Get(1, "a"); return x.BackTo(0) }, "a", ""},
		{"Delete ahead of BackTo", func(x *mvcc.Tx) api.Errno { x.Delete(1, "c"); return x.BackTo(0) }, "c", ""},
		{"Scan ahead of BackTo", func(x *mvcc.Tx) api.Errno {
			x.Put(1, "a", "7")
			x.Scan(1, "", "", api.Part{Text: "1"})
			return x.BackTo(0)
		}, "abcdef", "1"},
		{"all", func(x *mvcc.Tx) api.Errno { x.Get(1, "f"); x.Watch(1, "a", "b", nil); return x.Watch(1, "c", "d", nil) }, "acf", ""},
	}
	for _, k := range strings.Split("abcdef", "") {
		l = append(l, getting(k), deleting(k))
	}
	for _, part := range []string{"", "0", "1", "10"} {
		for _, r := range [][3]string{{"", "", "abcdef"}, {"b", "d", "bc"}, {"b", "", "bcdef"}, {"", "c", "ab"}, {"c", "c\x00", "c"}, {"e", "zz", "ef"}, {"b", "b", ""}, {"d", "b", ""}, {"cc", "", "def"}, {"zz", "", ""}} {
			l = append(l, scanning(r[0], r[1], part, r[2]), watching(r[0], r[1], part, r[2]))
		}
	}
	return l
}

// turning: commits, each a list of keys and values by turns (an empty value: it is erased).
type turning struct {
	name    string
	commits [][]string
}

// turnings of all kinds.
func turnings() []turning {
	return []turning{
		{"none", nil},
		{"comes, and meets", [][]string{{"e", "1"}}},
		{"comes, and does not meet", [][]string{{"e", "2"}}},
		{"goes, and did not meet", [][]string{{"a", ""}}},
		{"goes, and met", [][]string{{"c", ""}}},
		{"another value, meets neither way", [][]string{{"a", "2"}}},
		{"another value, meets before alone", [][]string{{"c", "2"}}},
		{"another value, meets behind alone", [][]string{{"b", "1"}}},
		{"another value, meets both ways", [][]string{{"d", "21"}}},
		{"the same value", [][]string{{"a", "0", "d", "1"}}},
		{"erased, and was not there", [][]string{{"e", "", "f", ""}}},
		{"put and erased", [][]string{{"e", "1", "e", ""}}},
		{"another value and back at once", [][]string{{"c", "2", "c", "1"}}},
		{"turned and turned back", [][]string{{"c", "2"}, {"c", "1"}}},
		{"comes and goes", [][]string{{"e", "1"}, {"e", ""}}},
		{"comes and goes, and does not meet", [][]string{{"e", "2"}, {"e", ""}}},
		{"goes and comes", [][]string{{"c", ""}, {"c", "1"}}},
		{"meets between alone", [][]string{{"a", "1"}, {"a", "2"}}},
		{"turned twice, meets at last", [][]string{{"a", "2"}, {"a", "1"}}},
		{"turned twice, met first", [][]string{{"d", "2"}, {"d", "3"}}},
		{"turned twice, does not meet", [][]string{{"b", "2"}, {"b", "3"}}},
		{"several", [][]string{{"a", "2", "b", "2"}, {"f", "3"}, {"f", "4"}}},
		{"no byte of a value", [][]string{{"a", "0", "b", "10"}}},
	}
}

// refused: must one that has looked so be refused? By the document: an entry that it has read is not the same ahead of a commit and behind it, and meets the condition one way or the other.
func (w turning) refused(l look) bool {
	now := map[string]string{"a": "0", "b": "0", "c": "1", "d": "1"}
	meets := func(v string) bool { return v != "" && strings.Contains(v, l.part) }
	found := false
	for _, c := range w.commits {
		ahead := map[string]string{}
		for i := 0; i < len(c); i += 2 {
			if _, ok := ahead[c[i]]; !ok {
				ahead[c[i]] = now[c[i]]
			}
			now[c[i]] = c[i+1]
		}
		for k, v := range ahead {
			found = found || strings.Contains(l.keys, k) && v != now[k] && (meets(v) || meets(now[k]))
		}
	}
	return found
}

// P14: each kind of reading against each kind of turning
func TestReadingAndTurning(t *testing.T) {
	refused, passed := 0, 0
	for _, l := range looks() {
		for _, w := range turnings() {
			s := filled(t, "a", "0", "b", "0", "c", "1", "d", "1")
			x, reader := s.Begin(), s.Begin()
			is(t, l.do(x), api.OK)
			is(t, l.do(reader), api.OK)
			is(t, reader.BackTo(0), api.OK)
			for _, c := range w.commits {
				commit(t, s, c...)
			}
			late := s.Begin()
			is(t, l.do(late), api.OK)
			all(t, api.OK, x.Put(3, "mine", "1"), late.Put(3, "late", "1"))
			n := s.Commits()
			want, mine := api.OK, "late1 mine1"
			if w.refused(l) {
				want, mine = api.ErrConflict, "late1"
				refused++
			} else {
				passed++
			}
			if e := x.Commit(); e != want {
				t.Fatalf("%s, %s: %v, want %v", l.name, w.name, e, want)
			}
			if want != api.OK && s.Commits() != n || want == api.OK && s.Commits() != n+1 {
				t.Fatalf("%s, %s: %d commits, %d ahead of it", l.name, w.name, s.Commits(), n)
			}
			// One that read the same and wrote nothing is not refused, nor one that began behind the commits (if it did not read what x wrote).
			is(t, reader.Commit(), api.OK)
			if want == api.OK && x.Mark() > 1 {
				continue
			}
			is(t, late.Commit(), api.OK)
			sees(t, s.Begin(), 3, mine)
		}
	}
	if refused < 200 || passed < 500 {
		t.Errorf("just %d were refused, %d were not", refused, passed)
	}
}

// P14: one that was refused is over, and nothing of it counts; what it meant to do can be done anew.
func TestOneThatWasRefused(t *testing.T) {
	s := filled(t, "a", "1", "b", "1")
	x := s.Begin()
	gets(t, x, "a", "1", true)
	all(t, api.OK, x.Put(1, "b", "2"), x.Put(5, "k", "v"), x.Erase(1, "a"))
	commit(t, s, "a", "3")
	counts(t, s, 2, 1)
	is(t, x.Commit(), api.ErrConflict)
	counts(t, s, 2, 0)
	left(t, s, "a3 b1")
	lasts(t, s, 5, "")
	isOver(t, x)
	if x.Mark() != 0 {
		t.Errorf("%d writes stand", x.Mark())
	}
	y := s.Begin()
	gets(t, y, "a", "3", true)
	all(t, api.OK, y.Put(1, "b", "2"), y.Put(5, "k", "v"), y.Erase(1, "a"), y.Commit())
	counts(t, s, 3, 0)
	left(t, s, "b2")
	lasts(t, s, 5, "k")
}

// P14: it is a commit that turns, not a write: what is rolled back, refused, or not committed yet is in nobody's way.
func TestWritesThatDoNotCount(t *testing.T) {
	s := filled(t, "a", "1", "b", "1")
	x := s.Begin()
	gets(t, x, "a", "1", true)
	is(t, x.Put(1, "x", "1"), api.OK)
	open, back, refused := s.Begin(), s.Begin(), s.Begin()
	all(t, api.OK, open.Put(1, "a", "2"), back.Put(1, "a", "3"), refused.Put(1, "a", "4"))
	gets(t, refused, "b", "1", true)
	is(t, back.Rollback(), api.OK)
	commit(t, s, "b", "5")
	is(t, refused.Commit(), api.ErrConflict)
	is(t, x.Commit(), api.OK)
	left(t, s, "a1 b5 x1")
	// The one that is open has read nothing.
	is(t, open.Commit(), api.OK)
	left(t, s, "a2 b5 x1")
}

// P14: of those that read what the others write the first one to be committed counts.
func TestSkew(t *testing.T) {
	for first := range 3 {
		s := filled(t, "a", "1", "b", "1", "c", "1")
		var l []*mvcc.Tx
		for i := range 3 {
			x := s.Begin()
			if i == 1 {
				for _, k := range []string{"a", "b", "c"} {
					gets(t, x, k, "1", true)
				}
			} else if n, e := x.Scan(1, "a", "d", api.Part{Text: "1"}); len(n) != 3 || e != api.OK {
				t.Fatal(told(n), e)
			}
			is(t, x.Put(1, string([]byte{byte('a' + i)}), "0"), api.OK)
			l = append(l, x)
		}
		is(t, l[first].Commit(), api.OK)
		is(t, l[(first+1)%3].Commit(), api.ErrConflict)
		is(t, l[(first+2)%3].Commit(), api.ErrConflict)
		left(t, s, []string{"a0 b1 c1", "a1 b0 c1", "a1 b1 c0"}[first])
	}
}

// P14: two that write the same and have not read it both count, the later one at last.
func TestWritesAreNotRead(t *testing.T) {
	s := filled(t, "a", "1")
	x, y := s.Begin(), s.Begin()
	all(t, api.OK, x.Put(1, "a", "x"), y.Put(1, "a", "y"), x.Erase(1, "b"), y.Put(1, "b", "y"))
	is(t, y.Commit(), api.OK)
	is(t, x.Commit(), api.OK)
	left(t, s, "ax")
	counts(t, s, 3, 0)
}

// P14: one that only read is never refused, nor one whose writes do not stand.
func TestReadersAreNotRefused(t *testing.T) {
	s := filled(t, "a", "1", "b", "1")
	x, y, z := s.Begin(), s.Begin(), s.Begin()
	for _, r := range []*mvcc.Tx{x, y, z} {
		gets(t, r, "a", "1", true)
		is(t, r.Watch(1, "", "", nil), api.OK)
	}
	all(t, api.OK, y.Put(1, "a", "9"), y.Erase(1, "b"), y.BackTo(0))
	deletes(t, z, "zz", false)
	commit(t, s, "a", "2", "zz", "2")
	for _, r := range []*mvcc.Tx{x, y, z} {
		gets(t, r, "a", "1", true)
		is(t, r.Commit(), api.OK)
		isOver(t, r)
	}
	counts(t, s, 2, 0)
	left(t, s, "a2 b1 zz2")
}

// P14: that nothing would be turned does not help one that has read what was turned.
func TestRefusedThoughItTurnsNothing(t *testing.T) {
	s := filled(t, "a", "1", "b", "1")
	x, y := s.Begin(), s.Begin()
	gets(t, x, "a", "1", true)
	all(t, api.OK, x.Put(1, "b", "1"), y.Put(1, "b", "1"))
	commit(t, s, "a", "2")
	is(t, x.Commit(), api.ErrConflict)
	is(t, y.Commit(), api.OK)
	counts(t, s, 2, 0)
}

// P14: a commit ahead of Begin is in nobody's way, the last one ahead of it included; the first one behind it is.
func TestCommitsSinceBegin(t *testing.T) {
	s := filled(t, "a", "0")
	old := s.Begin()
	commit(t, s, "a", "1")
	x := s.Begin()
	gets(t, x, "a", "1", true)
	is(t, x.Put(1, "x", "1"), api.OK)
	commit(t, s, "b", "1")
	is(t, x.Commit(), api.OK)
	y := s.Begin()
	gets(t, y, "a", "1", true)
	is(t, y.Put(1, "y", "1"), api.OK)
	commit(t, s, "a", "2")
	is(t, y.Commit(), api.ErrConflict)
	sees(t, old, 1, "a0")
	left(t, s, "a2 b1 x1")
}

// P14: conditions that look at the key, and at both; what they are asked is an entry as it is at some time.
func TestConditions(t *testing.T) {
	s := filled(t, "a", "1", "ab", "2", "b", "3")
	x := s.Begin()
	l, e := x.Scan(1, "", "", &prefix{"a"})
	if e != api.OK || listed(l) != "a1 ab2" {
		t.Fatal(listed(l), e)
	}
	var questions []string
	cond := asked(func(key, value string) bool {
		questions = append(questions, key+value)
		return key == "b" && value == "3"
	})
	l, e = x.Scan(1, "ab", "c", cond)
	if e != api.OK || listed(l) != "b3" || strings.Join(questions, " ") != "ab2 b3" {
		t.Fatal(listed(l), e, questions)
	}
	questions = nil
	is(t, x.Watch(1, "b", "c", cond), api.OK)
	if questions != nil {
		t.Errorf("Watch asks %v", questions)
	}
	is(t, x.Put(1, "mine", "1"), api.OK)
	y, z := s.Begin(), s.Begin()
	for _, n := range []*mvcc.Tx{y, z} {
		_, e = n.Scan(1, "", "", &prefix{"a"})
		all(t, api.OK, e, n.Put(1, "mine", "2"))
	}
	commit(t, s, "b", "4", "c", "5")
	is(t, x.Commit(), api.ErrConflict)
	is(t, y.Commit(), api.OK)
	commit(t, s, "a", "2")
	is(t, z.Commit(), api.ErrConflict)
	left(t, s, "a2 ab2 b4 c5 mine2")
}

// P14: conditions in plain data
func TestPlainConditions(t *testing.T) {
	s := filled(t, "a", "1", "b", "12", "c", "2")
	x, y := s.Begin(), s.Begin()
	for _, w := range []struct {
		part []string
		want string
	}{{nil, "a1 b12 c2"}, {[]string{""}, "a1 b12 c2"}, {[]string{"2"}, "b12 c2"}, {[]string{"12", "no"}, "b12"}, {[]string{"3"}, ""}} {
		if l, e := plain.Scan(x, 1, "a", "", w.part); e != api.OK || listed(l) != w.want {
			t.Errorf("%q: %s, %v", w.part, listed(l), e)
		}
	}
	all(t, api.OK, plain.Watch(y, 1, "", "", []string{"2"}), y.Put(2, "k", "v"), x.Rollback())
	commit(t, s, "a", "3")
	z := s.Begin()
	all(t, api.OK, plain.Watch(z, 1, "", "", []string{"2"}), z.Put(2, "k", "w"), y.Commit())
	commit(t, s, "a", "32")
	is(t, z.Commit(), api.ErrConflict)
}
