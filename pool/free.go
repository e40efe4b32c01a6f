package pool

import (
	"relstore/api"
	"relstore/page"
)

// maxPages that a file holds.
const maxPages = api.MaxFile / api.PageSize

// Alloc a page: its number.
func (p *Pool) Alloc() (int, api.Errno) {
	n := p.free
	if n == 0 {
		return p.grow()
	}
	x, e := p.opened(n)
	if e != api.OK {
		return 0, e
	}
	if e := p.setFree(x.Link); e != api.OK {
		return 0, e
	}
	x.Link, x.Cells = 0, nil
	if e := p.seal(n, x); e != api.OK {
		return 0, e
	}
	return n, api.OK
}

// grow by a page: its number.
func (p *Pool) grow() (int, api.Errno) {
	if p.pages >= maxPages {
		return 0, api.ErrLarge
	}
	s, e := page.Seal(api.Page{Kind: api.FreePage})
	if e != api.OK {
		return 0, e
	}
	if e := p.makeRoom(); e != api.OK {
		return 0, e
	}
	n := p.pages
	p.pages++
	p.change(n, p.hold(n, s), s)
	return n, api.OK
}

// Free a page.
func (p *Pool) Free(n int) api.Errno {
	if n == 0 {
		return api.ErrArg
	}
	if e := p.seal(n, api.Page{Kind: api.FreePage, Link: p.free}); e != api.OK {
		return e
	}
	return p.setFree(n)
}

// setFree: page 0 tells another first free page.
func (p *Pool) setFree(n int) api.Errno {
	first, e := p.opened(0)
	if e != api.OK {
		return e
	}
	first.Link = n
	if e := p.seal(0, first); e != api.OK {
		return e
	}
	p.free = n
	return api.OK
}

// opened: what a page holds.
func (p *Pool) opened(n int) (api.Page, api.Errno) {
	f, e := p.use(n)
	if e != api.OK {
		return api.Page{}, e
	}
	return page.Open(f.text)
}

// seal a page, and put it at its number.
func (p *Pool) seal(n int, x api.Page) api.Errno {
	s, e := page.Seal(x)
	if e != api.OK {
		return e
	}
	return p.put(n, s)
}
