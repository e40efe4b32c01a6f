package pool_test

import (
	"slices"
	"testing"

	"relstore/api"
	"relstore/disk"
	"relstore/pool"
)

// deed: a call of a pool, and the pages that count behind it (none: they stay as they are).
type deed struct {
	do    func(p *pool.Pool) api.Errno
	pages []string
}

func writes(n int, name string) deed {
	return deed{do: func(p *pool.Pool) api.Errno { return p.Write(n, sheet(name)) }}
}

// looks at pages, so that others go.
func looks(pages ...int) deed {
	return deed{do: func(p *pool.Pool) api.Errno {
		for _, n := range pages {
			if _, e := p.Read(n); e != api.OK {
				return e
			}
		}
		return api.OK
	}}
}

func allocs() deed {
	return deed{do: func(p *pool.Pool) api.Errno { _, e := p.Alloc(); return e }}
}

func frees(n int) deed {
	return deed{do: func(p *pool.Pool) api.Errno { return p.Free(n) }}
}

// commits all that was written, so that these are the pages.
func commits(pages ...string) deed { return deed{(*pool.Pool).Commit, pages} }

func rolls() deed { return deed{do: (*pool.Pool).Rollback} }

func checkpoints() deed { return deed{do: (*pool.Pool).Checkpoint} }

// story of a pool: what its disk has, which pages count there, and what is done.
type story struct {
	files [2]string
	pages []string
	deeds []deed
}

// turned pages: some of them are others, or there are more.
func turned(pages []string, others map[int]string) []string {
	l := slices.Clone(pages)
	for n, s := range others {
		for len(l) <= n {
			l = append(l, "")
		}
		l[n] = s
	}
	return l
}

// stories: a new pool; pages that are spilled, rolled back, made and freed; a log that comes to 1,000 frames.
func stories() []story {
	a, b, c := sheet("a"), sheet("b"), sheet("c")
	many := []string{first(0)}
	for n := 1; n < 11; n++ {
		many = append(many, placed(11)[1024*n:1024*n+1024])
	}
	spilled := turned(many, map[int]string{1: a, 2: b})
	freed := turned(many, map[int]string{0: first(4), 4: free(0), 11: free(0)})
	given := turned(freed, map[int]string{0: first(0), 4: a})
	return []story{
		{pages: []string{first(0)}, deeds: []deed{
			allocs(), allocs(), writes(1, "a"), commits(first(0), a, free(0)),
			writes(2, "b"), commits(first(0), a, b),
			checkpoints(),
			frees(1), commits(first(1), free(0), b),
			allocs(), allocs(), rolls(), commits(first(1), free(0), b),
			allocs(), writes(1, "c"), commits(first(0), c, b),
			checkpoints(),
			frees(2), frees(1), rolls(), allocs(), writes(3, "a"),
		}},
		{files: [2]string{placed(11), mark + slot(3, 0, 11)}, pages: many, deeds: []deed{
			writes(1, "a"), writes(2, "b"), looks(3, 4, 5, 6, 7, 8, 9, 10), commits(spilled...),
			writes(1, "c"), looks(2, 3, 4, 5, 6, 7, 8, 9), rolls(),
			looks(1), writes(3, "c"), commits(turned(spilled, map[int]string{3: c})...),
			writes(2, "a"), looks(3, 4, 5, 6, 7, 8, 9, 10), tooEarly(), writes(4, "a"),
			commits(turned(spilled, map[int]string{2: a, 3: c, 4: a})...),
			checkpoints(), writes(5, "b"),
		}},
		{files: [2]string{placed(11), mark + slot(1, 0, 11)}, pages: many, deeds: []deed{
			allocs(), frees(4), commits(freed...),
			frees(5), looks(1, 2, 3, 6, 7, 8, 9, 10), rolls(),
			allocs(), writes(4, "a"), commits(given...),
			checkpoints(),
			frees(11), frees(4), looks(1, 2, 3, 6, 7, 8, 9, 10), commits(turned(given, map[int]string{0: first(4), 4: free(11), 11: free(0)})...),
		}},
		{files: [2]string{placed(3), logged(998)}, pages: []string{first(0), a, many[2]}, deeds: []deed{
			writes(2, "b"), writes(1, "c"), commits(first(0), c, b),
			writes(1, "a"), commits(first(0), a, b),
		}},
	}
}

// tooEarly: a checkpoint that is refused, since something was written.
func tooEarly() deed {
	return deed{do: func(p *pool.Pool) api.Errno {
		if e := p.Checkpoint(); e != api.ErrState {
			return api.ErrCheck
		}
		return api.OK
	}}
}

// told: how far a story came.
type told struct {
	pages []string // of the last commit that was answered
	next  []string // of one that was not: it may be there
}

// tell a story on a disk that goes down behind so many operations (below 0: it does not).
func (s story) tell(t *testing.T, fail int) (told, *disk.Disk) {
	t.Helper()
	d := disk.New()
	if s.files[1] != "" {
		d = laid(t, s.files[0], s.files[1])
	}
	d.Fail(fail)
	so := told{pages: s.pages}
	p, e := pool.Open(d, 8)
	for _, x := range s.deeds {
		if e != api.OK {
			break
		}
		e = x.do(p)
		switch {
		case x.pages == nil:
		case e == api.OK:
			so.pages = x.pages
		default:
			so.next = x.pages
		}
	}
	if (e == api.OK) == d.Down() || e != api.OK && e != api.ErrDown {
		t.Fatalf("down behind %d: %v", fail, e)
	}
	return so, d
}

// operations that a story takes, its opening among them.
func (s story) operations(t *testing.T) int {
	t.Helper()
	_, d := s.tell(t, -1)
	if s.files[1] != "" {
		return d.Count() - 4
	}
	return d.Count()
}

// keeps: all ways in which a crash may deal with so many writes and cuts.
func keeps(waits int) [][]int {
	l := [][]int{nil}
	for range waits {
		var longer [][]int
		for _, keep := range l {
			for how := range 3 {
				longer = append(longer, append(slices.Clone(keep), how))
			}
		}
		l = longer
	}
	return l
}

// pagesOf a pool.
func pagesOf(t *testing.T, p *pool.Pool) []string {
	t.Helper()
	var l []string
	for n := range p.Pages() {
		s, e := p.Read(n)
		is(t, e, api.OK)
		l = append(l, s)
	}
	return l
}

// holds: does a pool that is opened have the pages of the last commit, and nothing behind it?
func (so told) holds(t *testing.T, p *pool.Pool) []string {
	t.Helper()
	l := pagesOf(t, p)
	if !slices.Equal(l, so.pages) && (so.next == nil || !slices.Equal(l, so.next)) {
		t.Fatalf("%d pages, not those of the last commit", len(l))
	}
	return l
}

// goesOn: one page more is made, or taken from those that are free, and lasts.
func goesOn(t *testing.T, d *disk.Disk, p *pool.Pool, pages []string) {
	t.Helper()
	n, e := p.Alloc()
	is(t, e, api.OK)
	is(t, p.Write(n, sheet("new")), api.OK)
	want := turned(pages, map[int]string{0: pagesOf(t, p)[0], n: sheet("new")})
	is(t, p.Commit(), api.OK)
	d.Crash(nil)
	p = opened(t, d, 8)
	if !slices.Equal(pagesOf(t, p), want) {
		t.Fatalf("%d pages, not those of the last commit", p.Pages())
	}
	is(t, p.Checkpoint(), api.OK)
	if !slices.Equal(pagesOf(t, opened(t, d, 8)), want) {
		t.Fatalf("%d pages, not those of the last commit", p.Pages())
	}
}

// P12: the disk goes down behind each number of operations, each way of keeping is tried, and a pool that is opened has the pages of the last commit.
func TestWhateverACrashKeeps(t *testing.T) {
	for _, s := range stories() {
		for fail := range s.operations(t) + 1 {
			_, d := s.tell(t, fail)
			for _, keep := range keeps(d.Waits()) {
				so, d := s.tell(t, fail)
				d.Crash(keep)
				pages := so.holds(t, opened(t, d, 8))
				// What was kept lasts, whatever comes.
				d.Crash(nil)
				p := opened(t, d, 8)
				if !slices.Equal(pagesOf(t, p), pages) {
					t.Fatalf("down behind %d, kept %v: other pages at the second opening", fail, keep)
				}
				goesOn(t, d, p, pages)
			}
		}
	}
}

// P12: a commit that is answered is there if nothing that waits is kept.
func TestACommitLasts(t *testing.T) {
	for _, s := range stories() {
		for i, x := range s.deeds {
			if x.pages == nil {
				continue
			}
			cut := s
			cut.deeds = s.deeds[:i+1]
			_, d := cut.tell(t, -1)
			if d.Waits() != 0 {
				t.Errorf("%d wait", d.Waits())
			}
			d.Crash(nil)
			if !slices.Equal(pagesOf(t, opened(t, d, 8)), x.pages) {
				t.Errorf("deed %d: other pages", i)
			}
		}
	}
}

// P12: crashes in the opening, one behind the other
func TestCrashesInTheOpening(t *testing.T) {
	for _, pages := range []string{"", "rest"} {
		for fail := range 9 {
			for _, keep := range keeps(1) {
				for second := range 9 {
					for _, more := range keeps(1) {
						d := laid(t, pages, "")
						d.Fail(fail)
						p, e := pool.Open(d, 8)
						if (e == api.OK) != (fail == 8) || (p == nil) != (fail < 8) {
							t.Fatalf("down behind %d: %v", fail, e)
						}
						d.Crash(keep)
						d.Fail(second)
						pool.Open(d, 64)
						d.Crash(more)
						p = opened(t, d, 8)
						if l := pagesOf(t, p); !slices.Equal(l, []string{first(0)}) || p.Frames() != 1 {
							t.Fatalf("down behind %d, kept %v; behind %d, kept %v: %d pages", fail, keep, second, more, len(l))
						}
						gives(t, p, 1)
					}
				}
			}
		}
	}
}

// P12: behind a crash the pages that were spilled, or rolled back, are not there; those of the commit are, and the free pages with them.
func TestFreePagesBehindACrash(t *testing.T) {
	p, d := over(t, 12)
	is(t, p.Free(3), api.OK)
	is(t, p.Free(6), api.OK)
	is(t, p.Commit(), api.OK)
	gives(t, p, 6)
	gives(t, p, 3)
	gives(t, p, 12)
	uses(t, p, 1, 2, 4, 5, 7, 8, 9, 10, 11)
	if p.Stat().Spills != 4 || d.Waits() != 4 {
		t.Errorf("%+v, %d wait", p.Stat(), d.Waits())
	}
	d.Crash([]int{1})
	p = opened(t, d, 8)
	shows(t, p, 12, 3, counted(0, 0, 0))
	gives(t, p, 6)
	gives(t, p, 3)
	gives(t, p, 12)
}
