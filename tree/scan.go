package tree

import "relstore/api"

// search for entries of a range.
type search struct {
	from, to string
	most     int // below 0: all
	back     bool
	found    []api.Entry
}

// Scan the entries of a range.
func (t *Tree) Scan(from, to string, most int) ([]api.Entry, api.Errno) {
	return t.entries(search{from: from, to: to, most: most})
}

// Back scans the same entries, the last one first.
func (t *Tree) Back(from, to string, most int) ([]api.Entry, api.Errno) {
	return t.entries(search{from: from, to: to, most: most, back: true})
}

// entries that a search finds.
func (t *Tree) entries(s search) ([]api.Entry, api.Errno) {
	if e := t.caught(func() { t.walk(t.top(), &s) }); e != api.OK {
		return nil, e
	}
	return s.found, api.OK
}

// walk through the cells, or the children, that may be in the range, as long as more is wanted.
func (t *Tree) walk(n *node, s *search) {
	first, end := s.within(n)
	for k := first; k < end && len(s.found) != s.most; k++ {
		i := k
		if s.back {
			i = first + end - 1 - k
		}
		if n.Kind == api.InnerPage {
			t.walk(t.child(n, i), s)
		} else {
			s.found = append(s.found, api.Entry{Key: n.key(i), Value: t.valueOf(n.Cells[i])})
		}
	}
}

// within the range: the first one of a node's cells, or of its children, and the one behind the last.
func (s *search) within(n *node) (int, int) {
	end := len(n.Cells)
	if s.to != "" {
		end, _ = n.find(s.to)
	}
	if n.Kind == api.InnerPage {
		// The child ahead of the first key that is not below the end may have keys that are.
		return n.childFor(s.from), end + 1
	}
	first, _ := n.find(s.from)
	return first, end
}
