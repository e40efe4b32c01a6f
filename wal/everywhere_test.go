package wal_test

import (
	"math"
	"testing"

	"relstore/api"
	"relstore/disk"
	"relstore/wal"
)

// numbers of all kinds.
func numbers() []int {
	return []int{math.MinInt, math.MinInt + 1, -1 << 32, -1 << 31, -1, 0, 1, 2, 3, 1023, 1024, 65535, 65536, 65537, math.MaxInt32, math.MaxInt32 + 1, 1<<32 - 1, 1 << 32, math.MaxInt - 1, math.MaxInt}
}

// askAll calls of a log, with arguments of all kinds; what comes beside an error must be zero.
func askAll(t *testing.T, l *wal.Log) {
	t.Helper()
	texts := []string{"", "x", sheet("a"), sheet("a")[1:], sheet("a") + "x", zeros(5000)}
	for _, n := range numbers() {
		if s, e := l.Read(n); (e == api.OK) != (len(s) == 1024) || e != api.OK && s != "" {
			t.Errorf("Read(%d): %d bytes, %v", n, len(s), e)
		}
		for _, s := range texts {
			l.Append(n, s)
			for _, pages := range []int{math.MinInt, -1, 0, 1, 3, 65537, math.MaxInt} {
				l.Commit(n, s, pages)
				l.Pages()
				l.Frames()
			}
			l.Back()
		}
	}
	l.Checkpoint()
	l.Back()
	l.Append(0, sheet("b"))
	l.Checkpoint()
	l.Back()
	l.Checkpoint()
}

// P1
func TestEachCallAnswers(t *testing.T) {
	for _, log := range []string{
		"", "x", mark, zeros(3000),
		mark + slot(1, 1, 2) + slot(2, 2, 3) + frame(0, "a") + frame(1, "b"),
		mark + slot(1, 0, 1<<32-1) + slot(1, 1, 1<<31) + frame(0, "a"),
		mark + slot(2, 1<<32-1, 1<<32-1) + slot(3, 2, 1<<32-1) + four(1<<32-1) + sheet("a") + frame(65536, "b"),
		mark + slot(3, 2, 0) + slot(3, 2, 0) + frame(0, "a") + frame(math.MaxInt32, "b"),
	} {
		askAll(t, opened(t, laid(t, sheet("zero")+"rest", log)))
		for fail := range 12 {
			d := laid(t, sheet("zero")+"rest", log)
			l := opened(t, d)
			d.Fail(fail)
			askAll(t, l)
			refused(t, d, api.ErrDown)
			askAll(t, l)
		}
	}
}

// P1: a log whose disk has crashed, or was cut, beneath it
func TestEachCallAnswersBehindACrash(t *testing.T) {
	for fail := range 30 {
		for how := range 3 {
			d := disk.New()
			l := opened(t, d)
			d.Fail(fail)
			for i := range 6 {
				l.Append(i, sheet("a"))
				l.Commit(i, sheet("b"), i+1)
			}
			d.Crash([]int{how})
			askAll(t, l)
			is(t, d.Cut(1, 20), api.OK)
			is(t, d.Cut(0, 0), api.OK)
			askAll(t, l)
		}
	}
}

// P1: no disk
func TestOpenOfNoDisk(t *testing.T) { refused(t, nil, api.ErrArg) }

// P1: Open over a disk that goes down in it
func TestOpenOfADiskThatGoesDown(t *testing.T) {
	for fail := range 4 {
		d := disk.New()
		d.Fail(fail)
		refused(t, d, api.ErrDown)
		refused(t, d, api.ErrDown)
		if !d.Down() || d.Count() != fail {
			t.Errorf("%v, %d operations", d.Down(), d.Count())
		}
	}
}

// P2: a text is made of bytes that the caller turns afterwards; texts that have come out stay.
func TestTextsStay(t *testing.T) {
	d := disk.New()
	l := opened(t, d)
	b := []byte(sheet("a"))
	is(t, l.Commit(0, string(b), 1), api.OK)
	clear(b)
	first, _ := l.Read(0)
	is(t, l.Append(0, sheet("b")), api.OK)
	second, _ := l.Read(0)
	l.Back()
	is(t, l.Commit(0, sheet("c"), 1), api.OK)
	third, _ := l.Read(0)
	is(t, l.Checkpoint(), api.OK)
	is(t, l.Commit(0, sheet("d"), 1), api.OK)
	is(t, l.Checkpoint(), api.OK)
	is(t, d.Cut(0, 0), api.OK)
	is(t, d.Cut(1, 0), api.OK)
	if first != sheet("a") || second != sheet("b") || third != sheet("c") {
		t.Errorf("%s, %s, %s", short(first), short(second), short(third))
	}
}

// P2: what a log keeps is on its disk: one that is opened knows all that was committed by another.
func TestAllIsOnTheDisk(t *testing.T) {
	d := disk.New()
	for i, name := range []string{"a", "b", "c", "d", "e", "f", "g"} {
		l := opened(t, d)
		is(t, l.Commit(i%3, sheet(name), 3), api.OK)
		if i == 4 {
			is(t, l.Checkpoint(), api.OK)
		}
	}
	l := opened(t, d)
	reads(t, l, 0, sheet("g"))
	reads(t, l, 1, sheet("e"))
	reads(t, l, 2, sheet("f"))
	if l.Pages() != 3 || l.Frames() != 2 {
		t.Error(l.Pages(), l.Frames())
	}
}

// P2: logs over two disks know nothing of one another: each does what its own model does.
func TestTwoLogs(t *testing.T) {
	all := scripts(200, 200)
	for i := 0; i < len(all); i += 2 {
		var pairs []*pair
		var readers []*reader
		for _, s := range all[i : i+2] {
			p := couple(t, sheet("zero"))
			p.open(t)
			pairs, readers = append(pairs, p), append(readers, &reader{script: s})
		}
		for len(readers[0].script)+len(readers[1].script) > 0 {
			for j, p := range pairs {
				p.step(t, readers[j])
				p.raise(t, readers[j])
				pairs[0].agree(t)
				pairs[1].agree(t)
			}
		}
	}
}
