package disk_test

import (
	"math"
	"slices"
	"testing"

	"relstore/api"
	"relstore/disk"
)

// P1
func TestEachCallAnswers(t *testing.T) {
	numbers := []int{math.MinInt, math.MinInt + 1, -1, 0, 1, 2, 3, 4096, api.MaxFile - 1, api.MaxFile, api.MaxFile + 1, math.MaxInt - 1, math.MaxInt}
	d := disk.New()
	for _, down := range []bool{false, true} {
		if down {
			d.Fail(0)
			is(t, d.Sync(0), api.ErrDown)
		}
		for _, f := range numbers {
			d.Size(f)
			d.Sync(f)
			for _, at := range numbers {
				d.Cut(f, at)
				d.Write(f, at, "")
				d.Write(f, at, "xyz")
				for _, n := range numbers {
					if s, e := d.Read(f, at, n); (e == api.OK) != (len(s) == n) && n != 0 {
						t.Errorf("Read(%d, %d, %d): %d bytes, %v", f, at, n, len(s), e)
					}
				}
			}
		}
	}
	d.Crash(numbers)
	for _, n := range numbers {
		d.Fail(n)
		d.Sync(0)
		d.Crash([]int{n})
		d.Crash(nil)
	}
}

// P2: the list that Crash gets, room behind it included, is the caller's.
func TestKeepIsNotChangedAndNotKept(t *testing.T) {
	d := disk.New()
	crash := func(keep []int) {
		put(t, d, 0, 0, "abcd")
		put(t, d, 1, 0, "wxyz")
		d.Crash(keep)
	}
	all := []int{2, 1, 7, 1}
	was := slices.Clone(all)
	crash(all[:2])
	if !slices.Equal(all, was) {
		t.Errorf("keep was changed: %v", all)
	}
	all[0], all[1] = 1, 0
	has(t, d, "ab", "wxyz")
	crash(nil)
	has(t, d, "ab", "wxyz")
}

// P2: texts that have come out stay as they are.
func TestTextsThatComeOutStay(t *testing.T) {
	d := disk.New()
	put(t, d, 0, 0, "abcd")
	s, _ := d.Read(0, 0, 4)
	part, _ := d.Read(0, 1, 2)
	put(t, d, 0, 0, "WXYZ")
	is(t, d.Cut(0, 0), api.OK)
	put(t, d, 0, 0, "1234")
	d.Crash([]int{1})
	put(t, d, 0, 0, "5678")
	if s != "abcd" || part != "bc" {
		t.Errorf("%q, %q", s, part)
	}
}

// P2: two disks know nothing of one another.
func TestTwoDisks(t *testing.T) {
	one, two := disk.New(), disk.New()
	put(t, one, 0, 0, "one")
	put(t, two, 1, 0, "two")
	is(t, two.Sync(0), api.OK)
	tells(t, one, 1, 1, false)
	tells(t, two, 2, 1, false)
	one.Fail(0)
	is(t, two.Sync(1), api.OK)
	is(t, one.Sync(0), api.ErrDown)
	tells(t, one, 1, 1, true)
	tells(t, two, 3, 0, false)
	has(t, two, "", "two")
	put(t, two, 0, 0, "more")
	one.Crash([]int{1})
	has(t, one, "one", "")
	has(t, two, "more", "two")
	tells(t, two, 4, 1, false)
}
