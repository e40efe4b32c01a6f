package pool

import (
	"slices"

	"relstore/api"
)

// frame: a page that is held.
type frame struct {
	text  string
	pins  int
	dirty bool // the log has not this text
}

// use a page: it is held, and stands last.
func (p *Pool) use(n int) (*frame, api.Errno) {
	if n < 0 || n >= p.pages {
		return nil, api.ErrMissing
	}
	if f, ok := p.frames[n]; ok {
		p.stat.Hits++
		p.order = append(p.without(n), n)
		return f, api.OK
	}
	if e := p.makeRoom(); e != api.OK {
		return nil, e
	}
	s, e := p.log.Read(n)
	if e != api.OK {
		return nil, e
	}
	p.stat.Misses++
	return p.hold(n, s), api.OK
}

// hold one page more, for which there is room.
func (p *Pool) hold(n int, s string) *frame {
	f := &frame{text: s}
	p.frames[n] = f
	p.order = append(p.order, n)
	return f
}

// without a page: the order of the others.
func (p *Pool) without(n int) []int {
	i := slices.Index(p.order, n)
	return slices.Delete(p.order, i, i+1)
}

// makeRoom for one page more.
func (p *Pool) makeRoom() api.Errno {
	if len(p.order) < p.most {
		return api.OK
	}
	i := slices.IndexFunc(p.order, p.isLoose)
	if i < 0 {
		return api.ErrBusy
	}
	n := p.order[i]
	if p.frames[n].dirty {
		if e := p.toLog(n); e != api.OK {
			return e
		}
		p.stat.Spills++
	}
	delete(p.frames, n)
	p.order = slices.Delete(p.order, i, i+1)
	return api.OK
}

// isPinned: a page that is held.
func (p *Pool) isPinned(n int) bool { return p.frames[n].pins > 0 }

// isLoose: a page that is held, and may go.
func (p *Pool) isLoose(n int) bool { return !p.isPinned(n) }

// toLog: a page that is held is appended there.
func (p *Pool) toLog(n int) api.Errno {
	f := p.frames[n]
	if e := p.log.Append(n, f.text); e != api.OK {
		return e
	}
	f.dirty = false
	return api.OK
}

// put bytes into a page.
func (p *Pool) put(n int, s string) api.Errno {
	f, e := p.use(n)
	if e != api.OK {
		return e
	}
	p.change(n, f, s)
	return api.OK
}

// change a page that is held.
func (p *Pool) change(n int, f *frame, s string) {
	f.text, f.dirty = s, true
	p.changed[n] = struct{}{}
}

// dirty pages that are held, by rising numbers.
func (p *Pool) dirty() []int {
	var l []int
	for n, f := range p.frames {
		if f.dirty {
			l = append(l, n)
		}
	}
	slices.Sort(l)
	return l
}

// forget all pages that changed.
func (p *Pool) forget() {
	for n := range p.changed {
		delete(p.frames, n)
	}
	p.order = slices.DeleteFunc(p.order, p.isGone)
	p.changed = map[int]struct{}{}
}

// isGone: a page of the order that is held no more.
func (p *Pool) isGone(n int) bool {
	_, ok := p.frames[n]
	return !ok
}
