package disk_test

import (
	"math"
	"strings"
	"testing"

	"relstore/api"
	"relstore/disk"
)

// P9: New
func TestNewIsEmptyAndUp(t *testing.T) {
	d := disk.New()
	has(t, d, "", "")
	tells(t, d, 0, 0, false)
	for i := range 1000 {
		put(t, d, i%2, i, "x")
	}
	tells(t, d, 1000, 1000, false)
}

// P9: Read
func TestRead(t *testing.T) {
	d := disk.New()
	put(t, d, 0, 0, "abcde")
	put(t, d, 1, 0, "xy")
	for _, x := range []struct {
		f, at, n int
		want     string
		e        api.Errno
	}{
		{0, 0, 5, "abcde", api.OK},
		{0, 0, 0, "", api.OK},
		{0, 1, 3, "bcd", api.OK},
		{0, 4, 1, "e", api.OK},
		{0, 5, 0, "", api.OK},
		{0, 6, 0, "", api.ErrSpace},
		{0, 5, 1, "", api.ErrSpace},
		{0, 0, 6, "", api.ErrSpace},
		{0, 4, 2, "", api.ErrSpace},
		{1, 0, 2, "xy", api.OK},
		{1, 0, 3, "", api.ErrSpace},
		{1, api.MaxFile, 0, "", api.ErrSpace},
		{1, 0, api.MaxFile, "", api.ErrSpace},
	} {
		if s, e := d.Read(x.f, x.at, x.n); s != x.want || e != x.e {
			t.Errorf("%v: %q, %v", x, s, e)
		}
	}
	tells(t, d, 2, 2, false)
}

// P9: Write
func TestWrite(t *testing.T) {
	for _, x := range []struct {
		was  string
		at   int
		s    string
		want string
	}{
		{"", 0, "", ""},
		{"", 0, "ab", "ab"},
		{"", 3, "ab", "\x00\x00\x00ab"},
		{"", 3, "", "\x00\x00\x00"},
		{"abc", 0, "", "abc"},
		{"abc", 0, "X", "Xbc"},
		{"abc", 1, "XY", "aXY"},
		{"abc", 2, "XY", "abXY"},
		{"abc", 3, "XY", "abcXY"},
		{"abc", 4, "XY", "abc\x00XY"},
		{"abc", 5, "", "abc\x00\x00"},
		{"abc", 0, "WXYZ", "WXYZ"},
		{"abc", 1, "\x00\xff", "a\x00\xff"},
	} {
		for f := range 2 {
			d := disk.New()
			put(t, d, f, 0, x.was)
			put(t, d, 1-f, 0, "other")
			put(t, d, f, x.at, x.s)
			want := []string{"other", "other"}
			want[f] = x.want
			has(t, d, want...)
			tells(t, d, 3, 3, false)
		}
	}
}

// P9: Cut
func TestCut(t *testing.T) {
	for _, x := range []struct {
		was  string
		size int
		want string
	}{
		{"", 0, ""}, {"", 2, "\x00\x00"}, {"abc", 0, ""}, {"abc", 2, "ab"}, {"abc", 3, "abc"}, {"abc", 5, "abc\x00\x00"},
	} {
		for f := range 2 {
			d := disk.New()
			put(t, d, f, 0, x.was)
			put(t, d, 1-f, 0, "other")
			is(t, d.Cut(f, x.size), api.OK)
			want := []string{"other", "other"}
			want[f] = x.want
			has(t, d, want...)
			tells(t, d, 3, 3, false)
		}
	}
}

// P9: what was cut off does not come again, neither in what is seen nor in what lasts.
func TestZerosComeWhereAFileWasCut(t *testing.T) {
	d := disk.New()
	put(t, d, 0, 0, "abcdefgh")
	is(t, d.Sync(0), api.OK)
	is(t, d.Cut(0, 2), api.OK)
	is(t, d.Cut(0, 4), api.OK)
	has(t, d, "ab\x00\x00")
	is(t, d.Cut(0, 1), api.OK)
	put(t, d, 0, 3, "x")
	has(t, d, "a\x00\x00x")
	d.Crash([]int{1})
	has(t, d, "a\x00\x00x")
}

// P9: the bounds of files
func TestGreatestFile(t *testing.T) {
	const most = api.MaxFile
	for _, x := range []struct {
		op
		size int
	}{
		{op{"Write", 0, most - 1, 1}, most},
		{op{"Write", 0, most, 0}, most},
		{op{"Write", 1, 0, most}, most},
		{op{"Cut", 1, most, 0}, most},
	} {
		d := disk.New()
		is(t, x.ask(t, d), api.OK)
		if n, e := d.Size(x.f); n != x.size || e != api.OK {
			t.Errorf("%v: %d, %v", x.op, n, e)
		}
		is(t, op{"Read", x.f, 0, most}.ask(t, d), api.OK)
		is(t, op{"Read", x.f, most, 0}.ask(t, d), api.OK)
		is(t, op{"Read", x.f, most, 1}.ask(t, d), api.ErrArg)
		is(t, d.Write(x.f, most, "x"), api.ErrArg)
		d.Crash([]int{1})
		if n, e := d.Size(x.f); n != x.size || e != api.OK {
			t.Errorf("%v, crashed: %d, %v", x.op, n, e)
		}
	}
}

// wrong: calls that may not be.
func wrong() []op {
	var l []op
	for _, f := range []int{2, 3, -1, 256, math.MinInt, math.MaxInt} {
		for _, name := range []string{"Read", "Write", "Cut", "Size", "Sync"} {
			l = append(l, op{name, f, 0, 0})
		}
	}
	for f := range 2 {
		for _, at := range []int{-1, math.MinInt, api.MaxFile + 1, math.MaxInt} {
			for _, name := range []string{"Read", "Write", "Cut"} {
				l = append(l, op{name, f, at, 0})
			}
		}
		for _, n := range []int{-1, math.MinInt, api.MaxFile + 1, math.MaxInt} {
			l = append(l, op{"Read", f, 0, n}, op{"Read", f, 1, n}, op{"Read", f, api.MaxFile, n})
		}
		l = append(l, op{"Read", f, api.MaxFile, 1}, op{"Read", f, 2, api.MaxFile - 1}, op{"Read", f, -1, 1})
		l = append(l, op{"Write", f, api.MaxFile, 1}, op{"Write", f, api.MaxFile - 2, 3}, op{"Write", f, 0, api.MaxFile + 1}, op{"Write", f, -1, 1})
	}
	return l
}

// P9: ErrArg; what is refused is not done and not counted, and does not use up what Fail tells.
func TestWrongArguments(t *testing.T) {
	d := disk.New()
	put(t, d, 0, 0, "abc")
	put(t, d, 1, 0, "xy")
	d.Fail(1)
	for _, o := range wrong() {
		if e := o.ask(t, d); e != api.ErrArg {
			t.Errorf("%v: %v", o, e)
		}
	}
	has(t, d, "abc", "xy")
	tells(t, d, 2, 2, false)
	put(t, d, 0, 3, "d")
	for _, o := range wrong() {
		if e := o.ask(t, d); e != api.ErrArg {
			t.Errorf("%v: %v", o, e)
		}
	}
	tells(t, d, 3, 3, false)
	is(t, d.Sync(0), api.ErrDown)
	for _, o := range wrong() {
		if e := o.ask(t, d); e != api.ErrArg {
			t.Errorf("down: %v: %v", o, e)
		}
	}
	tells(t, d, 3, 3, true)
}

// P9: ErrDown, ahead of ErrSpace
func TestDown(t *testing.T) {
	for _, first := range []op{{"Write", 0, 0, 1}, {"Write", 1, 9, 0}, {"Cut", 0, 0, 0}, {"Sync", 1, 0, 0}} {
		d := disk.New()
		put(t, d, 0, 0, "abc")
		is(t, d.Sync(0), api.OK)
		put(t, d, 1, 0, "xyz")
		d.Fail(0)
		has(t, d, "abc", "xyz")
		tells(t, d, 3, 1, false)
		is(t, first.ask(t, d), api.ErrDown)
		tells(t, d, 3, 1, true)
		for f := range 2 {
			for _, o := range []op{{"Read", f, 0, 1}, {"Read", f, 0, 0}, {"Read", f, 100, 1}, {"Write", f, 0, 1}, {"Write", f, 0, 0}, {"Cut", f, 0, 0}, {"Cut", f, 3, 0}, {"Size", f, 0, 0}, {"Sync", f, 0, 0}} {
				if e := o.ask(t, d); e != api.ErrDown {
					t.Errorf("%v: %v", o, e)
				}
			}
		}
		tells(t, d, 3, 1, true)
		d.Crash([]int{1})
		has(t, d, "abc", "xyz")
		tells(t, d, 3, 0, false)
	}
}

// P9: Fail
func TestFail(t *testing.T) {
	for n := range 10 {
		d := disk.New()
		d.Fail(n)
		for i := range n {
			is(t, op{[]string{"Write", "Cut", "Sync"}[i%3], i % 2, i, 1}.ask(t, d), api.OK)
			// Looking is no operation.
			is(t, op{"Read", 0, 0, 0}.ask(t, d), api.OK)
			is(t, op{"Size", 1, 0, 0}.ask(t, d), api.OK)
		}
		if d.Down() || d.Count() != n {
			t.Fatalf("behind %d: %v, %d", n, d.Down(), d.Count())
		}
		is(t, d.Sync(0), api.ErrDown)
		if !d.Down() || d.Count() != n {
			t.Fatalf("behind %d and one: %v, %d", n, d.Down(), d.Count())
		}
	}
}

// P9: Fail counts from where it is told; the last word holds.
func TestFailAgain(t *testing.T) {
	d := disk.New()
	d.Fail(1)
	put(t, d, 0, 0, "a")
	d.Fail(2)
	put(t, d, 0, 1, "b")
	put(t, d, 0, 2, "c")
	is(t, d.Write(0, 3, "d"), api.ErrDown)

	for _, never := range []int{-1, -2, math.MinInt} {
		d = disk.New()
		d.Fail(0)
		d.Fail(never)
		for i := range 100 {
			put(t, d, 0, i, "x")
		}
		tells(t, d, 100, 100, false)
	}

	d = disk.New()
	d.Fail(math.MaxInt)
	put(t, d, 0, 0, "x")
	tells(t, d, 1, 1, false)
}

// P9: a disk that is down comes up by a crash, by nothing else; then it does not fail.
func TestFailOfADiskThatIsDown(t *testing.T) {
	for _, n := range []int{-1, 0, 1, 100} {
		d := disk.New()
		d.Fail(0)
		is(t, d.Sync(0), api.ErrDown)
		d.Fail(n)
		tells(t, d, 0, 0, true)
		is(t, d.Write(0, 0, "x"), api.ErrDown)
		d.Crash(nil)
		tells(t, d, 0, 0, false)
		for i := range 200 {
			put(t, d, 0, i, "x")
		}
		tells(t, d, 200, 200, false)
	}
}

// P9: a crash ends what Fail told.
func TestCrashEndsFail(t *testing.T) {
	for n := range 3 {
		d := disk.New()
		d.Fail(n)
		d.Crash(nil)
		for i := range 5 {
			put(t, d, 0, i, "x")
		}
		tells(t, d, 5, 5, false)
	}
}

// P9: Sync
func TestSync(t *testing.T) {
	d := disk.New()
	put(t, d, 0, 0, "abc")
	put(t, d, 1, 0, "xyz")
	put(t, d, 0, 1, "B")
	is(t, d.Cut(1, 2), api.OK)
	is(t, d.Cut(0, 4), api.OK)
	tells(t, d, 5, 5, false)
	is(t, d.Sync(0), api.OK)
	tells(t, d, 6, 2, false)
	has(t, d, "aBc\x00", "xy")
	is(t, d.Sync(0), api.OK)
	tells(t, d, 7, 2, false)
	d.Crash(nil)
	has(t, d, "aBc\x00", "")
	tells(t, d, 7, 0, false)
	put(t, d, 1, 0, "uvw")
	is(t, d.Cut(1, 1), api.OK)
	is(t, d.Sync(1), api.OK)
	d.Crash(nil)
	has(t, d, "aBc\x00", "u")
}

// P9: what waits is counted off by both files together, without what a sync took.
func TestSyncTakesOutOfTheOrder(t *testing.T) {
	d := disk.New()
	put(t, d, 0, 0, "a")
	put(t, d, 1, 0, "w")
	put(t, d, 0, 1, "b")
	put(t, d, 1, 1, "x")
	is(t, d.Sync(0), api.OK)
	put(t, d, 0, 2, "c")
	put(t, d, 1, 2, "y")
	tells(t, d, 7, 4, false)
	d.Crash([]int{1, 0, 1, 0})
	has(t, d, "abc", "w")
}

// P9: Crash
func TestCrash(t *testing.T) {
	for _, x := range []struct {
		keep      []int
		zero, one string
	}{
		{nil, "old.", ""},
		{[]int{}, "old.", ""},
		{[]int{0}, "old.", ""},
		{[]int{1}, "abYZ", "xyz"},
		{[]int{2}, "abY.", "x"},
		{[]int{3}, "old.", ""},
		{[]int{-1}, "old.", ""},
		{[]int{math.MinInt, math.MaxInt}, "old.", ""},
		{[]int{257, 258}, "old.", ""},
		{[]int{1, 0, 0, 0}, "abcdefg", ""},
		{[]int{2, 0, 0, 0}, "abc.", ""},
		{[]int{0, 1, 0, 0}, "old.", "xyz"},
		{[]int{0, 2, 0, 0}, "old.", "x"},
		{[]int{0, 0, 1, 0}, "olYZ", ""},
		{[]int{0, 0, 2, 0}, "olY.", ""},
		{[]int{0, 0, 0, 1}, "old.", ""},
		{[]int{1, 0, 0, 1}, "abcd", ""},
		{[]int{1, 0, 0, 2}, "abcd", ""},
		{[]int{1, 0, 2}, "abYd", ""},
		{[]int{1, 0, 2, 0}, "abYdefg", ""},
		{[]int{1, 2, 0, 7, 1, 1, 1}, "abcdefg", "x"},
		{[]int{1, 2}, "abYZ", "x"},
	} {
		d := disk.New()
		put(t, d, 0, 0, "old.")
		is(t, d.Sync(0), api.OK)
		put(t, d, 0, 0, "abcdefg")
		put(t, d, 1, 0, "xyz")
		put(t, d, 0, 2, "YZ")
		is(t, d.Cut(0, 4), api.OK)
		has(t, d, "abYZ", "xyz")
		tells(t, d, 6, 4, false)
		d.Crash(x.keep)
		has(t, d, x.zero, x.one)
		tells(t, d, 6, 0, false)
		d.Crash([]int{1})
		has(t, d, x.zero, x.one)
	}
}

// P9: halves of writes
func TestHalves(t *testing.T) {
	for n, half := range []int{0, 0, 1, 1, 2, 2, 3} {
		for _, at := range []int{0, 1, 4, 6} {
			d := disk.New()
			put(t, d, 1, 0, "....")
			is(t, d.Sync(1), api.OK)
			put(t, d, 1, at, "abcdef"[:n])
			d.Crash([]int{2})
			whole := []byte("....\x00\x00\x00\x00\x00\x00\x00\x00\x00")
			copy(whole[at:], "abcdef"[:half])
			has(t, d, "", string(whole[:max(4, at+half)]))
		}
	}
}

// P9: halves of greater writes, far out
func TestHalfOfAGreatWrite(t *testing.T) {
	d := disk.New()
	put(t, d, 0, 5000, strings.Repeat("x", 9001))
	d.Crash([]int{2})
	has(t, d, strings.Repeat("\x00", 5000)+strings.Repeat("x", 4500), "")
}

// P9: what comes behind a crash waits anew, upon what was kept.
func TestCrashByCrash(t *testing.T) {
	d := disk.New()
	put(t, d, 0, 0, "abcd")
	d.Crash([]int{1})
	put(t, d, 0, 0, "WXYZ")
	has(t, d, "WXYZ", "")
	d.Crash([]int{0})
	has(t, d, "abcd", "")
	put(t, d, 0, 0, "WXYZ")
	d.Crash([]int{2})
	has(t, d, "WXcd", "")
	is(t, d.Cut(0, 0), api.OK)
	has(t, d, "", "")
	d.Crash(nil)
	has(t, d, "WXcd", "")
	tells(t, d, 4, 0, false)
}
