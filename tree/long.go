package tree

import (
	"strings"

	"relstore/api"
)

// pieceSize: so many bytes of a value stand in one page, as its only cell.
const pieceSize = api.PageRoom - 4

// entry: the cell of a key and its value, which gets pages of its own if it is long.
func (t *Tree) entry(key, value string) string {
	if fitsInline(key, len(value)) {
		return inlineCell(key, value)
	}
	return longCell(key, len(value), t.store(value))
}

// store a value in pages: the first one. The last one is made first, so that each page is written with its link.
func (t *Tree) store(value string) int {
	next := 0
	for at := (len(value) - 1) / pieceSize * pieceSize; at >= 0; at -= pieceSize {
		piece := value[at:min(at+pieceSize, len(value))]
		n := t.fresh(api.MorePage)
		n.Link, n.Cells = next, []string{piece}
		t.write(n)
		next = n.number
	}
	return next
}

// valueOf an entry.
func (t *Tree) valueOf(cell string) string {
	if !isInPages(cell) {
		return restOf(cell)[1:]
	}
	value, _ := t.follow(cell)
	return value
}

// freeValue: the pages of an entry's value are free, if it has some.
func (t *Tree) freeValue(cell string) {
	if !isInPages(cell) {
		return
	}
	_, pages := t.follow(cell)
	for _, number := range pages {
		t.free(number)
	}
}

// follow a long value through its pages.
func (t *Tree) follow(cell string) (string, []int) {
	var value strings.Builder
	var pages []int
	next := pageOf(cell)
	for value.Len() < longSize(cell) {
		x := t.read(next)
		// Pages without bytes could go round for ever.
		if x.Kind != api.MorePage || len(x.Cells) != 1 || x.Cells[0] == "" {
			check(api.ErrDamage)
		}
		value.WriteString(x.Cells[0])
		pages = append(pages, next)
		next = x.Link
	}
	if value.Len() > longSize(cell) || next != 0 {
		check(api.ErrDamage)
	}
	return value.String(), pages
}
