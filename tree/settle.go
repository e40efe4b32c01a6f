package tree

import (
	"slices"
	"sort"

	"relstore/api"
	"relstore/page"
)

// settle the nodes of a path, whose leaf was changed: from below upwards, as far as a parent changes too.
func (t *Tree) settle(path []*node) {
	for i := len(path) - 1; i > 0; i-- {
		n, parent := path[i], path[i-1]
		switch used := page.Used(n.Cells); {
		case used > api.PageRoom:
			t.split(parent, n)
		case used < api.MinUsed:
			t.join(parent, n)
		default:
			t.write(n)
			return
		}
	}
	t.settleRoot(path[0])
}

// settleRoot: it stays in its page, so what is too much for it goes down, and an only child comes up.
func (t *Tree) settleRoot(root *node) {
	switch {
	case page.Used(root.Cells) > api.PageRoom:
		n := t.fresh(root.Kind)
		n.Page = root.Page
		root.Page = api.Page{Kind: api.InnerPage, Link: n.number}
		root.taken = 0
		t.split(root, n)
	case root.Kind == api.InnerPage && len(root.Cells) == 0:
		child := t.load(root.Link, "", "")
		root.Page = child.Page
		t.free(child.number)
	}
	t.write(root)
}

// split a node that a parent's path takes: the right half gets a page of its own.
func (t *Tree) split(parent, n *node) {
	right := t.fresh(n.Kind)
	if n.Kind == api.LeafPage {
		right.Link, n.Link = n.Link, right.number
	}
	key := t.share(n, right, n.Cells)
	parent.insert(parent.taken, childCell(key, right.number))
}

// join a node that a parent's path takes with the one beside it, or share what both have.
func (t *Tree) join(parent, n *node) {
	left, right, at := n, n, parent.taken
	if at > 0 {
		at--
		left = t.child(parent, at)
	} else {
		right = t.child(parent, 1)
	}
	if left.Kind != right.Kind {
		check(api.ErrDamage)
	}
	all := left.with(right, parent.key(at))
	if page.Used(all) > api.PageRoom {
		key := t.share(left, right, all)
		parent.Cells[at] = childCell(key, right.number)
		return
	}
	left.Cells = all
	if left.Kind == api.LeafPage {
		left.Link = right.Link
	}
	t.write(left)
	t.free(right.number)
	parent.remove(at)
}

// with the cells of the node to the right: those of both. The first child of an inner node has no cell; it gets one with the key that stands between the two.
func (n *node) with(right *node, between string) []string {
	all := slices.Clone(n.Cells)
	if n.Kind == api.InnerPage {
		all = append(all, childCell(between, right.Link))
	}
	return append(all, right.Cells...)
}

// share cells between two nodes: the key that stands between them.
func (t *Tree) share(left, right *node, all []string) string {
	m := middle(all)
	left.Cells, right.Cells = all[:m], all[m:]
	if left.Kind == api.InnerPage {
		right.Link, right.Cells = pageOf(all[m]), all[m+1:]
	}
	t.write(left)
	t.write(right)
	return keyOf(all[m])
}

// middle: the cell with which half of the bytes are reached. No cell takes more than 244 of them, so that of more than PageRoom each side gets MinUsed, even without the middle.
func middle(cells []string) int {
	total := page.Used(cells)
	return sort.Search(len(cells), func(i int) bool { return 2*page.Used(cells[:i+1]) >= total })
}
