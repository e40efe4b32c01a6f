package mvcc

import (
	"slices"
	"sort"
	"strings"
)

// turn of an entry by a commit.
type turn struct {
	commit int // its number
	place
	before, after image
}

// past: what commits have turned, as far back as a transaction that is open may ask.
type past struct {
	commits int    // how many there were
	turns   []turn // by their commits
	begins  []int  // of all open transactions: how many commits there were, the fewest first
}

// begin a transaction: how many commits it sees.
func (h *past) begin() int {
	h.begins = append(h.begins, h.commits)
	return h.commits
}

// end a transaction. What nobody needs any more is forgotten.
func (h *past) end(begin int) {
	at, _ := slices.BinarySearch(h.begins, begin)
	h.begins = slices.Delete(h.begins, at, at+1)
	var needed []turn
	if len(h.begins) > 0 {
		needed = h.since(h.begins[0])
	}
	if len(needed) < len(h.turns) {
		// New memory: a piece of the list would keep what is forgotten.
		h.turns = append([]turn(nil), needed...)
	}
}

// since a begin: what was turned.
func (h *past) since(begin int) []turn {
	first := sort.Search(len(h.turns), func(i int) bool { return h.turns[i].commit > begin })
	return h.turns[first:]
}

// image of an entry as a transaction that began then sees it, if it was turned since.
func (h *past) image(begin int, p place) (image, bool) {
	for _, t := range h.since(begin) {
		if t.place == p {
			return t.before, true
		}
	}
	return image{}, false
}

// changes of a range back to what a transaction that began then sees, in order.
func (h *past) changes(begin int, r span) []change {
	var l []change
	for _, t := range h.since(begin) {
		if r.holds(t.place) {
			l = append(l, change{t.key, t.before})
		}
	}
	// Of an entry that was turned more than once the first turn counts.
	slices.SortStableFunc(l, func(a, b change) int { return strings.Compare(a.key, b.key) })
	return slices.CompactFunc(l, func(a, b change) bool { return a.key == b.key })
}
