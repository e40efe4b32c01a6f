package wal_test

import (
	"math"
	"testing"

	"relstore/api"
)

// found: the pages and frames of the last commit, by the words of the document, and how many slots are right.
func found(log string) (pages, frames, right int) {
	newest := 0
	for i := range 2 {
		at := 16 + 24*i
		if len(log) < at+24 || log[:16] != mark || log[at:at+12] != log[at+12:at+24] {
			continue
		}
		var l [3]int
		for j := range l {
			for _, b := range []byte(log[at+4*j : at+4*j+4]) {
				l[j] = 256*l[j] + int(b)
			}
		}
		if l[0] == 0 || l[0] > 3 || l[1] > 0 && 64+1028*l[1] > len(log) {
			continue
		}
		right++
		behind := map[int]int{1: 2, 2: 3, 3: 1}
		if right == 1 || behind[newest] == l[0] {
			newest, frames, pages = l[0], l[1], l[2]
		}
	}
	return pages, frames, right
}

// opens a log's file: is the last commit the one that the document tells?
func opens(t *testing.T, log string) {
	t.Helper()
	d := laid(t, "", log)
	l := opened(t, d)
	pages, frames, right := found(log)
	if right == 0 {
		has(t, d, "", mark+slot(1, 0, 0))
		tells(t, l, d, 0, 0, 8, 0)
		return
	}
	has(t, d, "", log)
	tells(t, l, d, pages, frames, 4, 0)
}

// P11: slots of all numbers, telling of all numbers of frames, in files of many sizes
func TestSlots(t *testing.T) {
	frames := frame(0, "a") + frame(1, "b") + frame(0, "c")
	for first := range 5 {
		for second := range 5 {
			if first == second && first > 0 && first < 4 {
				continue // the document does not say which of them is newer
			}
			for few := range 4 {
				for many := range 4 {
					log := mark + slot(first, few, 10) + slot(second, many, 20) + frames
					for _, size := range []int{0, 15, 16, 39, 40, 41, 63, 64, 65, 1091, 1092, 1093, 2119, 2120, 3147, 3148} {
						opens(t, log[:size])
					}
				}
			}
		}
	}
}

// P11: each byte of the head changed
func TestDamagedSlots(t *testing.T) {
	for _, numbers := range [][2]int{{1, 2}, {2, 3}, {3, 1}, {2, 1}, {3, 2}, {1, 3}} {
		log := mark + slot(numbers[0], 1, 5) + slot(numbers[1], 2, 6) + frame(0, "a") + frame(1, "b")
		opens(t, log)
		for at := range 64 {
			for _, bits := range []byte{1, 2, 3, 128, 255} {
				b := []byte(log)
				b[at] ^= bits
				opens(t, string(b))
				if at >= 16 { // both halves, so that it stays a slot
					other := at + 12
					if (at-16)%24 >= 12 {
						other = at - 12
					}
					b[other] ^= bits
					if b[19] != b[43] {
						opens(t, string(b))
					}
				}
			}
		}
	}
}

// P11: which of two right slots is newer
func TestNewerSlot(t *testing.T) {
	for _, x := range []struct{ first, second, pages int }{
		{1, 2, 20}, {2, 3, 20}, {3, 1, 20}, {2, 1, 10}, {3, 2, 10}, {1, 3, 10},
	} {
		d := laid(t, "", mark+slot(x.first, 0, 10)+slot(x.second, 0, 20))
		if n := opened(t, d).Pages(); n != x.pages {
			t.Errorf("%v: %d pages", x, n)
		}
		is(t, opened(t, d).Commit(0, sheet("a"), 30), api.OK)
		last := max(x.first, x.second)
		if x.first+x.second == 4 { // behind 3 comes 1
			last = 1
		}
		want := mark + slot(last%3+1, 1, 30) + slot(x.second, 0, 20)
		if x.pages == 10 {
			want = mark + slot(x.first, 0, 10) + slot(last%3+1, 1, 30)
		}
		has(t, d, "", want+frame(0, "a"))
	}
}

// P11: one right slot; the next commit takes the other one's place, whatever stands there.
func TestOneRightSlot(t *testing.T) {
	for number := 1; number <= 3; number++ {
		next := number%3 + 1
		for _, wrong := range []string{zeros(24), slot(0, 0, 0), slot(4, 0, 7), slot(next, 9, 7), slot(next, 1<<32-1, 7), slot(1<<24+1, 0, 7), slot(next, 0, 7)[:12] + slot(next, 0, 8)[12:]} {
			d := laid(t, "", mark+wrong+slot(number, 1, 5)+frame(3, "a"))
			l := opened(t, d)
			tells(t, l, d, 5, 1, 4, 0)
			reads(t, l, 3, sheet("a"))
			is(t, l.Commit(4, sheet("b"), 6), api.OK)
			has(t, d, "", mark+slot(next, 2, 6)+slot(number, 1, 5)+frame(3, "a")+frame(4, "b"))

			d = laid(t, "", mark+slot(number, 1, 5)+wrong+frame(3, "a"))
			l = opened(t, d)
			tells(t, l, d, 5, 1, 4, 0)
			is(t, l.Commit(4, sheet("b"), 6), api.OK)
			has(t, d, "", mark+slot(number, 1, 5)+slot(next, 2, 6)+frame(3, "a")+frame(4, "b"))
		}
		// Without the other slot at all.
		d := laid(t, "", mark+slot(number, 0, 5))
		l := opened(t, d)
		tells(t, l, d, 5, 0, 4, 0)
		is(t, l.Commit(4, sheet("b"), 6), api.OK)
		has(t, d, "", mark+slot(number, 0, 5)+slot(next, 1, 6)+frame(4, "b"))
	}
}

// P11: a slot that tells of more frames than there are is not right, however great the number.
func TestSlotOfTooManyFrames(t *testing.T) {
	frames := frame(0, "a") + frame(1, "b")
	for _, many := range []int{3, 4, 65280, 1 << 20, 1 << 22, math.MaxInt32, 1 << 31, 1<<32 - 1} {
		opens(t, mark+slot(1, 2, 5)+slot(2, many, 6)+frames)
		opens(t, mark+slot(2, many, 6)+slot(1, 2, 5)+frames)
		opens(t, mark+slot(1, many, 5)+slot(2, many, 6)+frames)
	}
}

// P11: frames of page numbers that no Append writes are there, but no call reaches them.
func TestFramesOfOtherNumbers(t *testing.T) {
	frames := four(1<<31) + sheet("a") + four(1<<32-1) + sheet("b") + frame(1, "c")
	d := laid(t, "", mark+slot(1, 3, 2)+zeros(24)+frames)
	l := opened(t, d)
	tells(t, l, d, 2, 3, 4, 0)
	reads(t, l, 1, sheet("c"))
	lacks(t, l, 0, api.ErrMissing)
	lacks(t, l, math.MaxInt32, api.ErrMissing)
	lacks(t, l, 1<<31, api.ErrArg)
	is(t, l.Checkpoint(), api.OK)
	has(t, d, zeros(1024)+sheet("c"), mark+slot(1, 3, 2)+slot(2, 0, 2)+frames)
}

// P11: any bytes of a log's file
func FuzzOpen(f *testing.F) {
	f.Add(1, 2, 1, 2, 5, 6, 2200, 0, byte(0))
	f.Add(3, 1, 0, 1, 5, 6, 64, 20, byte(3))
	f.Fuzz(func(t *testing.T, first, second, few, many, pages, more, size, at int, bits byte) {
		b := []byte(mark + slot(first, few, pages) + slot(second, many, more) + frame(0, "a") + frame(1, "b"))
		b = b[:uint(size)%uint(len(b)+1)]
		if len(b) > 0 {
			b[uint(at)%uint(len(b))] ^= bits
		}
		if len(b) >= 64 && string(b[16:20]) == string(b[40:44]) {
			return // the document does not say which of them is newer
		}
		opens(t, string(b))
	})
}
