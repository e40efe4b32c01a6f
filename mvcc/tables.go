package mvcc

import (
	"relstore/api"
	"relstore/pool"
	"relstore/tree"
)

// directoryRoot: the first page that a new store makes. The tree there tells the roots of all others.
const directoryRoot = 1

// tables of entries as the last commit left them: those that are not empty are a tree each.
type tables struct {
	pool      *pool.Pool
	directory *tree.Tree
	roots     map[int]int // what the directory tells
}

// openTables of a pool.
func openTables(p *pool.Pool) (*tables, api.Errno) {
	t := &tables{pool: p, directory: tree.Open(p, directoryRoot)}
	if p.Pages() == directoryRoot {
		if e := t.begin(); e != api.OK {
			return nil, e
		}
	}
	if e := t.load(); e != api.OK {
		return nil, e
	}
	return t, api.OK
}

// begin a directory.
func (t *tables) begin() api.Errno {
	if _, e := tree.Create(t.pool); e != api.OK {
		return e
	}
	return t.pool.Commit()
}

// load what the directory tells.
func (t *tables) load() api.Errno {
	l, e := t.directory.Scan("", "", -1)
	if e != api.OK {
		return e
	}
	t.roots = map[int]int{}
	for _, n := range l {
		table, root := number(n.Key), number(n.Value)
		if n.Key != four(table) || n.Value != four(root) || !isTable(table) || root <= directoryRoot {
			return api.ErrDamage
		}
		t.roots[table] = root
	}
	return api.OK
}

// tree of a table; nil, if it is empty.
func (t *tables) tree(table int) *tree.Tree {
	root, is := t.roots[table]
	if !is {
		return nil
	}
	return tree.Open(t.pool, root)
}

// image of an entry.
func (t *tables) image(p place) (image, api.Errno) {
	x := t.tree(p.table)
	if x == nil {
		return image{}, api.OK
	}
	value, there, e := x.Get(p.key)
	return image{value, there}, e
}

// entries of a range.
func (t *tables) entries(r span) ([]api.Entry, api.Errno) {
	x := t.tree(r.table)
	if x == nil {
		return nil, api.OK
	}
	return x.Scan(r.from, r.to, -1)
}

// last key of a table.
func (t *tables) last(table int) (string, bool, api.Errno) {
	x := t.tree(table)
	if x == nil {
		return "", false, api.OK
	}
	l, e := x.Back("", "", 1)
	if e != api.OK || len(l) == 0 {
		return "", false, e
	}
	return l[0].Key, true, api.OK
}

// commit turns of entries: all of them, or none.
func (t *tables) commit(turns []turn) api.Errno {
	e := t.write(turns)
	if e == api.OK {
		e = t.pool.Commit()
	}
	if e == api.OK || e == api.ErrDown {
		return e
	}
	if failed := t.back(); failed != api.OK {
		return failed
	}
	return e
}

// back to the last commit.
func (t *tables) back() api.Errno {
	if e := t.pool.Rollback(); e != api.OK {
		return e
	}
	return t.load()
}

// write turns of entries: first those that give room, so that the others may have it.
func (t *tables) write(turns []turn) api.Errno {
	giving, taking := parted(turns)
	if e := t.putAll(giving); e != api.OK {
		return e
	}
	if e := t.dropEmpty(giving); e != api.OK {
		return e
	}
	return t.putAll(taking)
}

// givesRoom: does the entry take less than it did?
func (t turn) givesRoom() bool {
	return !t.after.there || len(t.after.value) < len(t.before.value)
}

// parted: those that give room, and those that take it.
func parted(turns []turn) (giving, taking []turn) {
	for _, t := range turns {
		if t.givesRoom() {
			giving = append(giving, t)
		} else {
			taking = append(taking, t)
		}
	}
	return giving, taking
}

// putAll that turns tell.
func (t *tables) putAll(turns []turn) api.Errno {
	for _, n := range turns {
		if e := t.put(n.place, n.after); e != api.OK {
			return e
		}
	}
	return api.OK
}

// put an entry, or take away one that is there.
func (t *tables) put(p place, m image) api.Errno {
	if !m.there {
		_, e := t.tree(p.table).Delete(p.key)
		return e
	}
	if e := t.makeTree(p.table); e != api.OK {
		return e
	}
	return t.tree(p.table).Put(p.key, m.value)
}

// makeTree of a table, if it has none.
func (t *tables) makeTree(table int) api.Errno {
	if t.tree(table) != nil {
		return api.OK
	}
	root, e := tree.Create(t.pool)
	if e != api.OK {
		return e
	}
	t.roots[table] = root
	return t.directory.Put(four(table), four(root))
}

// dropEmpty: of the tables of some turns, those without entries give their pages back.
func (t *tables) dropEmpty(turns []turn) api.Errno {
	last := -1
	for _, n := range turns {
		// Turns of one table stand together.
		if n.table == last {
			continue
		}
		last = n.table
		if e := t.dropIfEmpty(last); e != api.OK {
			return e
		}
	}
	return api.OK
}

// dropIfEmpty: a table's tree goes if there is no entry in it.
func (t *tables) dropIfEmpty(table int) api.Errno {
	if _, is, e := t.last(table); e != api.OK || is {
		return e
	}
	if _, e := t.directory.Delete(four(table)); e != api.OK {
		return e
	}
	e := t.tree(table).Drop()
	delete(t.roots, table)
	return e
}

// four bytes of a number, the high one first.
func four(n int) string {
	return string([]byte{byte(n >> 24), byte(n >> 16), byte(n >> 8), byte(n)})
}

// number that four bytes tell, the high one first.
func number(s string) int {
	n := 0
	for i := range len(s) {
		n = n<<8 | int(s[i])
	}
	return n
}
