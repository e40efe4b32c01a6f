package mvcc

import (
	"slices"

	"relstore/api"
)

// Tx is a transaction.
type Tx struct {
	store *Store
	begin int // how many commits it sees
	over  bool
	own   draft
	gets  map[place]struct{} // the entries that it has read by their keys
	scans []scan
}

// scan: a range that was read, as far as it meets a condition.
type scan struct {
	span
	cond api.Cond
}

// Get an entry's value.
func (x *Tx) Get(table int, key string) (string, bool, api.Errno) {
	m, e := x.get(place{table, key})
	return m.value, m.there, e
}

// Scan the entries of a range that meet a condition.
func (x *Tx) Scan(table int, from, to string, cond api.Cond) ([]api.Entry, api.Errno) {
	l, e := x.Peek(table, from, to)
	if e != api.OK {
		return nil, e
	}
	x.scans = append(x.scans, scan{span{table, from, to}, cond})
	return slices.DeleteFunc(l, func(n api.Entry) bool { return !met(cond, n.Key, n.Value) }), api.OK
}

// Peek at the entries of a range: they do not count as read.
func (x *Tx) Peek(table int, from, to string) ([]api.Entry, api.Errno) {
	if e := x.asked(table); e != api.OK {
		return nil, e
	}
	r := span{table, from, to}
	l, e := x.store.tables.entries(r)
	if e != api.OK {
		return nil, e
	}
	return changed(changed(l, x.store.past.changes(x.begin, r)), x.own.changes(r)), api.OK
}

// Watch: the entries of a range that meet a condition count as read.
func (x *Tx) Watch(table int, from, to string, cond api.Cond) api.Errno {
	if e := x.asked(table); e != api.OK {
		return e
	}
	x.scans = append(x.scans, scan{span{table, from, to}, cond})
	return api.OK
}

// Put a value under a key.
func (x *Tx) Put(table int, key, value string) api.Errno {
	p := place{table, key}
	if e := x.askedFor(p); e != api.OK {
		return e
	}
	if len(value) > api.MaxValue {
		return api.ErrLarge
	}
	x.own.put(p, image{value, true})
	return api.OK
}

// Erase an entry, whether it is there or not.
func (x *Tx) Erase(table int, key string) api.Errno {
	p := place{table, key}
	if e := x.askedFor(p); e != api.OK {
		return e
	}
	x.own.put(p, image{})
	return api.OK
}

// Delete an entry; false: it is not there.
func (x *Tx) Delete(table int, key string) (bool, api.Errno) {
	p := place{table, key}
	m, e := x.get(p)
	if m.there {
		x.own.put(p, image{})
	}
	return m.there, e
}

// Mark tells how many writes stand.
func (x *Tx) Mark() int { return len(x.own.writes) }

// BackTo undoes the writes behind so many.
func (x *Tx) BackTo(mark int) api.Errno {
	switch {
	case x.over:
		return api.ErrState
	case mark < 0 || mark > x.Mark():
		return api.ErrArg
	}
	x.own.backTo(mark)
	return api.OK
}

// Commit: all that was written counts, and lasts; or nothing.
func (x *Tx) Commit() api.Errno {
	if x.over {
		return api.ErrState
	}
	// It is over ahead of all else, so that a condition that is asked can't bring it here once more.
	x.over = true
	e := x.store.seen(x.commit())
	x.end(e == api.OK)
	return e
}

// Rollback: nothing was written.
func (x *Tx) Rollback() api.Errno {
	if x.over {
		return api.ErrState
	}
	x.over = true
	x.end(false)
	return api.OK
}

// end of the transaction: whether its writes count or not.
func (x *Tx) end(counts bool) {
	x.store.past.end(x.begin)
	x.gets, x.scans = nil, nil
	if !counts {
		x.own = draft{}
	}
}

// commit what was written, if nothing that was read was turned.
func (x *Tx) commit() api.Errno {
	switch {
	case x.store.down:
		return api.ErrDown
	case x.Mark() == 0:
		return api.OK
	case slices.ContainsFunc(x.store.past.since(x.begin), x.hasRead):
		return api.ErrConflict
	}
	return x.store.commit(x.own.final())
}

// hasRead: has it read an entry that was turned?
func (x *Tx) hasRead(t turn) bool {
	if _, is := x.gets[t.place]; is {
		return true
	}
	return slices.ContainsFunc(x.scans, func(r scan) bool {
		return r.holds(t.place) && (t.before.meets(t.key, r.cond) || t.after.meets(t.key, r.cond))
	})
}

// asked for a table: why that may not be.
func (x *Tx) asked(table int) api.Errno {
	if x.over {
		return api.ErrState
	}
	return x.store.asked(table)
}

// askedFor an entry: why that may not be.
func (x *Tx) askedFor(p place) api.Errno {
	if e := x.asked(p.table); e != api.OK {
		return e
	}
	if !p.mayBe() {
		return api.ErrArg
	}
	return api.OK
}

// get an entry, which is read.
func (x *Tx) get(p place) (image, api.Errno) {
	if e := x.askedFor(p); e != api.OK {
		return image{}, e
	}
	m, e := x.image(p)
	if e == api.OK {
		x.gets[p] = struct{}{}
	}
	return m, e
}

// image of an entry as the transaction sees it.
func (x *Tx) image(p place) (image, api.Errno) {
	if m, is := x.own.image(p); is {
		return m, api.OK
	}
	if m, is := x.store.past.image(x.begin, p); is {
		return m, api.OK
	}
	return x.store.tables.image(p)
}
