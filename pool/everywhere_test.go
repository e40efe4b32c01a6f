package pool_test

import (
	"math"
	"slices"
	"testing"

	"relstore/api"
	"relstore/disk"
	"relstore/pool"
)

// numbers of all kinds.
func numbers() []int {
	return []int{math.MinInt, math.MinInt + 1, -1 << 32, -1 << 31, -1, 0, 1, 2, 3, 4, 8, 9, 63, 65535, 65536, 65537, math.MaxInt32, math.MaxInt32 + 1, 1<<32 - 1, 1 << 32, math.MaxInt - 1, math.MaxInt}
}

// askAll calls of a pool, with arguments of all kinds; what comes beside an error must be zero.
func askAll(t *testing.T, p *pool.Pool) {
	t.Helper()
	texts := []string{"", "x", sheet("a"), sheet("a")[1:], sheet("a") + "x", zeros(5000), free(math.MaxInt32), sealed(1, 1, "cell"), free(0)}
	for i, n := range numbers() {
		if s, e := p.Read(n); (e == api.OK) != (len(s) == 1024) || e != api.OK && s != "" {
			t.Errorf("Read(%d): %d bytes, %v", n, len(s), e)
		}
		p.Pin(n)
		p.Free(n)
		for _, s := range texts {
			p.Write(n, s)
			if k, e := p.Alloc(); (e == api.OK) != (k > 0) {
				t.Errorf("Alloc: %d, %v", k, e)
			}
		}
		p.Pages()
		p.Frames()
		p.Stat()
		if l := p.Held(); len(l) > 8 {
			t.Errorf("held: %v", l)
		}
		p.Checkpoint()
		if i%3 == 0 {
			p.Commit()
			p.Checkpoint()
		}
		p.Rollback()
		for _, n := range numbers() {
			p.Unpin(n)
		}
		p.Rollback()
	}
}

// disks of all kinds: what they have in their files.
func disks() [][2]string {
	return [][2]string{
		{"", ""},
		{"", "x"},
		{placed(5), ""},
		{placed(12), mark + slot(1, 1, 14) + zeros(24) + frame(3, sheet("a"))},
		{first(3) + sheet("1") + sheet("2") + free(4) + free(3), ""},
		{first(1) + free(1) + free(2), ""},
		{first(2) + free(2) + free(1<<31-1), ""},
		{first(1<<31 - 1), ""},
		{first(1) + sheet("no page"), ""},
		{first(1) + sealed(5, 2, "cell") + sealed(1, 0, sheet("")[:1000]), ""},
		{sealed(2, 0, sheet("")[:1008]) + sheet("1"), ""},
		{first(0) + sheet("1"), mark + slot(1, 0, 1<<32-1)},
		{first(1) + sheet("1"), mark + slot(1, 0, 1<<31)},
		{first(1<<31 - 1), mark + slot(1, 1, 1<<32-1) + zeros(24) + frame(1<<31-1, free(5))},
		{first(0), mark + slot(3, 2, 65536) + zeros(24) + frame(1<<32-1, sheet("a")) + frame(65535, sheet("b"))},
	}
}

// P1
func TestEachCallAnswers(t *testing.T) {
	for _, files := range disks() {
		askAll(t, opened(t, laid(t, files[0], files[1]), 8))
		for _, fail := range []int{0, 1, 2, 3, 4, 5, 6, 7, 8, 10, 15, 30} {
			d := laid(t, files[0], files[1])
			p := opened(t, d, 8)
			d.Fail(fail)
			askAll(t, p)
			for !d.Down() {
				d.Fail(0)
				d.Sync(0)
			}
			askAll(t, p)
			refused(t, d, 8, api.ErrDown)
		}
	}
}

// P1: a pool whose disk has crashed, or was cut, beneath it
func TestEachCallAnswersBehindACrash(t *testing.T) {
	for fail := range 20 {
		for how := range 3 {
			d := laid(t, placed(12), "")
			p := opened(t, d, 8)
			d.Fail(fail)
			for n := 1; n < 12; n++ {
				p.Write(n, sheet("a"))
				p.Alloc()
				p.Free(n)
				p.Commit()
			}
			d.Crash([]int{how})
			askAll(t, p)
			is(t, d.Cut(1, 20), api.OK)
			is(t, d.Cut(0, 1500), api.OK)
			askAll(t, p)
			is(t, d.Write(0, 0, sheet("no page")), api.OK)
			is(t, d.Cut(1, 0), api.OK)
			askAll(t, p)
		}
	}
}

// P1: no disk, and how many pages there may be is asked first of all
func TestOpenOfNoDisk(t *testing.T) {
	for _, most := range numbers() {
		refused(t, nil, most, api.ErrArg)
	}
	refused(t, nil, 8, api.ErrArg)
}

// P1: an error of the disk is answered by the call that meets it.
func TestADiskThatGoesDown(t *testing.T) {
	p, d := over(t, 12)
	is(t, p.Write(1, sheet("a")), api.OK)
	d.Fail(0)
	uses(t, p, 2, 3, 4, 5, 6, 7, 8)
	lacks(t, p, 9, api.ErrDown)
	if !d.Down() {
		t.Error("it is not down")
	}
	p, d = over(t, 12)
	is(t, p.Write(1, sheet("a")), api.OK)
	d.Fail(0)
	is(t, p.Commit(), api.ErrDown)
	p, d = over(t, 12)
	is(t, p.Write(1, sheet("a")), api.OK)
	is(t, p.Commit(), api.OK)
	d.Fail(0)
	is(t, p.Checkpoint(), api.ErrDown)
	p, d = over(t, 12)
	d.Fail(0)
	is(t, d.Sync(1), api.ErrDown)
	lacks(t, p, 1, api.ErrDown)
	is(t, p.Pin(1), api.ErrDown)
	is(t, p.Write(1, sheet("a")), api.ErrDown)
	is(t, p.Free(1), api.ErrDown)
	is(t, p.Rollback(), api.ErrDown)
	lacks(t, p, 12, api.ErrMissing)
	is(t, p.Write(0, sheet("a")), api.ErrArg)
	is(t, p.Free(0), api.ErrArg)
	is(t, p.Unpin(1), api.ErrState)
}

// P2: a text is made of bytes that the caller turns afterwards; texts that have come out stay.
func TestTextsStay(t *testing.T) {
	p, d := over(t, 12)
	b := []byte(sheet("a"))
	is(t, p.Write(1, string(b)), api.OK)
	clear(b)
	one, _ := p.Read(1)
	is(t, p.Commit(), api.OK)
	is(t, p.Write(1, sheet("b")), api.OK)
	two, _ := p.Read(1)
	is(t, p.Rollback(), api.OK)
	three, _ := p.Read(1)
	is(t, p.Free(1), api.OK)
	is(t, p.Commit(), api.OK)
	is(t, p.Checkpoint(), api.OK)
	is(t, d.Cut(0, 0), api.OK)
	is(t, d.Cut(1, 0), api.OK)
	if one != sheet("a") || two != sheet("b") || three != sheet("a") {
		t.Errorf("%s, %s, %s", short(one), short(two), short(three))
	}
}

// P2: the list of pages that comes out is the caller's, room behind it included.
func TestHeldIsNewMemory(t *testing.T) {
	p, _ := over(t, 12)
	for n := range 12 {
		uses(t, p, n)
		was := slices.Clone(p.Held())
		early := p.Held()
		late := p.Held()
		spoiled := late[:cap(late)]
		for i := range spoiled {
			spoiled[i] = -7
		}
		if !slices.Equal(p.Held(), was) || !slices.Equal(early, was) {
			t.Fatalf("%v, %v; want %v", p.Held(), early, was)
		}
		// What the pool does next is not seen in the list.
		uses(t, p, was[0])
		if !slices.Equal(early, was) {
			t.Fatalf("%v; want %v", early, was)
		}
		if l := p.Held(); len(l) != len(was) || l[len(l)-1] != was[0] {
			t.Fatalf("held: %v, behind %v", l, was)
		}
	}
}

// P2: what a pool keeps from one opening to the next is on its disk.
func TestAllIsOnTheDisk(t *testing.T) {
	d := disk.New()
	for i := 1; i < 20; i++ {
		p := opened(t, d, 8)
		gives(t, p, i)
		is(t, p.Write(i, sheet("a")), api.OK)
		is(t, p.Commit(), api.OK)
		if i%7 == 0 {
			is(t, p.Checkpoint(), api.OK)
		}
	}
	is(t, opened(t, d, 8).Write(3, sheet("never committed")), api.OK)
	p := opened(t, d, 64)
	shows(t, p, 20, 5, counted(0, 0, 0))
	for n := 1; n < 20; n++ {
		reads(t, p, n, sheet("a"))
	}
}

// P2: pools over two disks know nothing of one another: each does what its own model does.
func TestTwoPools(t *testing.T) {
	all := scripts(60, 300)
	for i := 0; i < len(all); i += 2 {
		pairs := []*pair{couple(t, placed(12), "", 8), couple(t, placed(15), "", 9)}
		var readers []*reader
		for j, p := range pairs {
			p.open(t)
			readers = append(readers, &reader{script: all[i+j]})
		}
		for len(readers[0].script)+len(readers[1].script) > 0 {
			for j, p := range pairs {
				p.step(t, readers[j])
				p.raise(t, readers[j])
				pairs[0].agree(t)
				pairs[1].agree(t)
			}
		}
		pairs[0].agreeOnAll(t)
		pairs[1].agreeOnAll(t)
	}
}
