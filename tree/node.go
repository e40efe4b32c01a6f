package tree

import (
	"slices"
	"strings"

	"relstore/api"
	"relstore/page"
)

// node of a tree: a page, where it stands, and between which keys.
type node struct {
	api.Page
	number    int
	low, high string // its keys are not below low and, unless high is empty, below high
	taken     int    // which of its children a path takes
}

// top of a tree: its root.
func (t *Tree) top() *node { return t.load(t.root, "", "") }

// child of a node.
func (t *Tree) child(n *node, i int) *node {
	number, low, high := n.Link, n.low, n.high
	if i > 0 {
		number, low = pageOf(n.Cells[i-1]), keyOf(n.Cells[i-1])
	}
	if i < len(n.Cells) {
		high = keyOf(n.Cells[i])
	}
	return t.load(number, low, high)
}

// load a node, whose keys must be within bounds.
func (t *Tree) load(number int, low, high string) *node {
	n := &node{Page: t.read(number), number: number, low: low, high: high}
	if !n.isSound() {
		check(api.ErrDamage)
	}
	return n
}

// isSound: is it a node, as one lies in its page? Since its keys are within bounds, no way down comes to a page twice.
func (n *node) isSound() bool {
	switch n.Kind {
	case api.LeafPage:
		return n.allAre(isEntry) && n.inOrder()
	case api.InnerPage:
		// A first key that is the lower bound would leave the first child without keys.
		return len(n.Cells) > 0 && n.allAre(isChild) && n.inOrder() && n.key(0) > n.low
	}
	return false
}

// allAre: are all cells of this form?
func (n *node) allAre(form func(cell string) bool) bool {
	for _, c := range n.Cells {
		if !form(c) {
			return false
		}
	}
	return true
}

// inOrder: do the keys rise, from one bound to the other?
func (n *node) inOrder() bool {
	for i := range n.Cells {
		key := n.key(i)
		if key < n.low || n.high != "" && key >= n.high || i > 0 && key <= n.key(i-1) {
			return false
		}
	}
	return true
}

// key of a cell.
func (n *node) key(i int) string { return keyOf(n.Cells[i]) }

// children: how many an inner node has.
func (n *node) children() int { return len(n.Cells) + 1 }

// find a key: the first cell that is not below it, and whether it is the key's.
func (n *node) find(key string) (int, bool) {
	return slices.BinarySearchFunc(n.Cells, key, func(cell, key string) int {
		return strings.Compare(keyOf(cell), key)
	})
}

// childFor a key: which one has it, if one has.
func (n *node) childFor(key string) int {
	at, is := n.find(key)
	if is {
		return at + 1
	}
	return at
}

// insert a cell.
func (n *node) insert(at int, cell string) { n.Cells = slices.Insert(n.Cells, at, cell) }

// remove a cell.
func (n *node) remove(at int) { n.Cells = slices.Delete(n.Cells, at, at+1) }

// path from the root down to the leaf for a key.
func (t *Tree) path(key string) []*node {
	path := []*node{t.top()}
	for last(path).Kind == api.InnerPage {
		n := last(path)
		n.taken = n.childFor(key)
		path = append(path, t.child(n, n.taken))
	}
	return path
}

// last node of a path.
func last(path []*node) *node { return path[len(path)-1] }

// read a page of the pool.
func (t *Tree) read(number int) api.Page {
	s, e := t.pool.Read(number)
	check(e)
	x, e := page.Open(s)
	check(e)
	return x
}

// fresh node, for which a page is allocated.
func (t *Tree) fresh(kind int) *node {
	number, e := t.pool.Alloc()
	check(e)
	return &node{Page: api.Page{Kind: kind}, number: number}
}

// write a node to its page.
func (t *Tree) write(n *node) {
	s, e := page.Seal(n.Page)
	check(e)
	check(t.pool.Write(n.number, s))
}

// free a page.
func (t *Tree) free(number int) { check(t.pool.Free(number)) }
