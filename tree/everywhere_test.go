package tree_test

import (
	"math"
	"slices"
	"testing"

	"relstore/api"
	"relstore/disk"
	"relstore/pool"
	"relstore/tree"
)

// texts of all kinds: keys, bounds, and what is none.
func texts() []string {
	return []string{"", "\x00", "k", "\xff", numbered(7, 120), run("k", 200), run("k", 201), run("\xff", 200), run("\x00", 70000)}
}

// sizes of values of all kinds.
func sizes() []int { return []int{0, 38, 237, 238, 1009, 3000, 3001, 70000} }

// askAll calls of a tree, with arguments of all kinds; what comes beside an error must be zero.
func askAll(t *testing.T, x *tree.Tree) {
	t.Helper()
	for _, k := range texts() {
		for i, c := range calls()[:8] {
			// The first four take a key.
			if e := c.do(t, x, k); i < 4 && (k == "" || len(k) > 200) && e != api.ErrArg {
				t.Errorf("%s(%s): %v", c.name, short(k), e)
			}
		}
		for _, n := range sizes() {
			x.Put(k, run("v", n))
		}
	}
	for i, from := range texts() {
		for j, to := range texts() {
			most := mosts()[(i+j)%len(mosts())]
			x.Scan(from, to, most)
			x.Back(from, to, most)
		}
	}
}

// forged pools: with pages of all kinds, and free pages that are none, or in use.
func forged(t *testing.T) []func() *pool.Pool {
	t.Helper()
	leaf, inner := full(0, "k"), sealed(2, 2, child("k", 3))
	var l []func() *pool.Pool
	for _, free := range []int{0, 1, 2, 4, 1<<31 - 1} {
		for _, pages := range [][]string{
			{leaf},
			{leaf, sealed(3, 1), sealed(3, 3)},
			{inner, full(3, "j"), leaf, sealed(3, 2)},
			{inner, full(3, "j"), leaf, sealed(3, 4)},
			{inner, full(3, "j"), leaf, run("x", 1024)},
			{sealed(1, 0, long("k", 1000, 3), long("l", 1000, 2)), sealed(5, 3, run("v", 500)), sealed(5, 0, run("v", 500)), sealed(3, 3)},
			{sealed(1, 0, long("k", 1000, 2), long("l", 1000, 2)), sealed(5, 0, run("v", 1000)), sealed(3, 1)},
			{sealed(1, 1<<31-1, inline("k", "v")), sealed(5, 0, "v")},
			{sealed(1, 0, inline("k1", run("v", 200)), inline("k2", run("v", 200)), inline("k3", run("v", 200)), inline("k4", run("v", 200))), sealed(3, 1)},
		} {
			l = append(l, func() *pool.Pool { return laid(t, free, pages...) })
		}
	}
	return l
}

// P1
func TestEachCallAnswers(t *testing.T) {
	for _, lay := range forged(t) {
		p := lay()
		for _, root := range []int{1, 2, 0, -1, p.Pages(), math.MaxInt, math.MinInt} {
			x := tree.Open(p, root)
			askAll(t, x)
			x.Drop()
			askAll(t, x)
			p.Rollback()
		}
		tree.Create(p)
	}
}

// P1: on disks that go down, that have crashed, or were cut beneath the tree
func TestEachCallAnswersWhateverTheDiskDoes(t *testing.T) {
	d, start := grown(t)
	for fail := range 12 {
		c := twin(t, d)
		b := start.on(t, c)
		c.Fail(fail)
		askAll(t, b.x)
		b.p.Commit()
		c.Fail(0)
		c.Sync(0)
		askAll(t, b.x)
		if n, e := tree.Create(b.p); (e == api.OK) != (n > 0) {
			t.Errorf("Create: %d, %v", n, e)
		}
		b.p.Rollback()
		askAll(t, b.x)
		c.Crash([]int{fail % 3, 1})
		askAll(t, b.x)
		c.Cut(0, 3000)
		c.Cut(1, 20)
		askAll(t, b.x)
		b.x.Drop()
		askAll(t, b.x)
	}
}

// P1: behind Drop a tree is not used any more, but its calls answer.
func TestEachCallAnswersBehindDrop(t *testing.T) {
	b := alone(t)
	for i := range 50 {
		b.put(t, numbered(i, 120), run("v", 100))
	}
	is(t, b.x.Drop(), api.OK)
	for _, c := range calls() {
		is(t, c.do(t, b.x, "k"), api.ErrDamage)
	}
	askAll(t, b.x)
}

// P1: just what the tree itself throws is an answer: a fault of the program is not taken for one.
func TestAFaultOfTheProgram(t *testing.T) {
	defer func() {
		if recover() == nil {
			t.Error("there is an answer")
		}
	}()
	var none *tree.Tree
	none.Get("k")
}

// P1: no pool
func TestNoPool(t *testing.T) {
	if n, e := tree.Create(nil); n != 0 || e != api.ErrArg {
		t.Errorf("Create: %d, %v", n, e)
	}
	for _, root := range []int{-1, 0, 1} {
		x := tree.Open(nil, root)
		for _, c := range calls() {
			is(t, c.do(t, x, "k"), api.ErrArg)
		}
		is(t, x.Put("k", run("v", 3001)), api.ErrLarge)
		askAll(t, x)
	}
}

// P2: texts are made of bytes that the caller turns afterwards; texts that have come out stay.
func TestTextsStay(t *testing.T) {
	b := alone(t)
	key, short, long := []byte(numbered(1, 20)), []byte(run("s", 100)), []byte(run("l", 2500))
	is(t, b.x.Put(string(key), string(short)), api.OK)
	is(t, b.x.Put(string(key)+"l", string(long)), api.OK)
	clear(key)
	clear(short)
	clear(long)
	b.want[numbered(1, 20)], b.want[numbered(1, 20)+"l"] = run("s", 100), run("l", 2500)
	b.holds(t)
	one, _, _ := b.x.Get(numbered(1, 20))
	two, _, _ := b.x.Get(numbered(1, 20) + "l")
	l, _ := b.x.Scan("", "", -1)
	m, _ := b.x.Back("", "", -1)
	was := b.between("", "")
	for i := range 40 {
		b.put(t, numbered(1, 20), run("t", i*20))
		b.put(t, numbered(i, 100), run("u", i*20))
	}
	is(t, b.x.Drop(), api.OK)
	if one != run("s", 100) || two != run("l", 2500) || !slices.Equal(l, was) {
		t.Error("they are others now")
	}
	slices.Reverse(m)
	if !slices.Equal(m, was) {
		t.Error("they are others now")
	}
}

// P2: lists that come out are the caller's, room behind them included.
func TestListsAreNewMemory(t *testing.T) {
	b := alone(t)
	for i := range 37 {
		b.put(t, numbered(i, 100), run("v", i*20))
		for _, ask := range []func(string, string, int) ([]api.Entry, api.Errno){b.x.Scan, b.x.Back} {
			early, _ := ask("", "", -1)
			was := slices.Clone(early)
			late, _ := ask("", "", -1)
			late = late[:cap(late)]
			for j := range late {
				late[j] = api.Entry{Key: "spoiled", Value: "spoiled"}
			}
			if !slices.Equal(early, was) {
				t.Fatal("two lists share memory")
			}
		}
		b.scan(t, "", "", -1)
	}
	b.holds(t)
}

// P2: what a tree keeps is in its pages: each call may be asked of a tree that was just opened.
func TestAllIsInThePages(t *testing.T) {
	d := disk.New()
	b := begun(t, opened(t, d, 8))
	for i := range 60 {
		b.x = tree.Open(b.p, b.root)
		b.put(t, numbered(i*37%60, 100), run("v", i*31%500))
		if i%3 == 0 {
			b.x = tree.Open(b.p, b.root)
			b.delete(t, numbered(i*41%60, 100))
		}
		if i%4 == 0 {
			is(t, b.p.Commit(), api.OK)
			*b = *b.on(t, d)
		}
		b.x = tree.Open(b.p, b.root)
		shaped(t, b)
	}
	b.holds(t)
}

// P2: trees over two pools know nothing of one another.
func TestTreesOverTwoPools(t *testing.T) {
	all := scripts(8, 900)
	for i := 0; i < len(all); i += 2 {
		shelves := []*shelf{stood(t), stood(t)}
		readers := []*reader{{script: all[i]}, {script: all[i+1]}}
		for len(readers[0].script)+len(readers[1].script) > 0 {
			for j, s := range shelves {
				s.step(t, readers[j])
				shaped(t, shelves[0].books...)
				shaped(t, shelves[1].books...)
			}
		}
		for _, s := range shelves {
			for _, b := range s.books {
				b.scan(t, "", "", -1)
			}
		}
	}
}
