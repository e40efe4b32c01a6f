package relstore

import (
	"relstore/api"
	"relstore/bind"
	"relstore/mvcc"
	"relstore/query"
)

// readings: what a transaction has read so far. The layer below hears of it just ahead of the commit: a condition must not change, but what was read grows up to then.
type readings struct {
	definitions definitionsRead
	rows        map[int]*rowsRead // of tables, by the numbers of their tables of entries
}

// definitionsRead: a condition of entries of the catalog.
type definitionsRead struct {
	all   bool
	names map[string]struct{} // of their tables
}

// rowsRead of a table: a condition of their entries.
type rowsRead struct {
	all   bool
	where map[string][]bind.Term // what was asked of them, by its sign
	keys  map[int]*keysRead      // of orders, by their numbers
}

// keysRead: the keys of rows in an order.
type keysRead struct {
	order
	keys map[string]struct{}
}

// Meets: is an entry one of a definition that was read?
func (d *definitionsRead) Meets(key, _ string) bool {
	if d.all {
		return true
	}
	_, is := d.names[unkeyed(key)[0].S]
	return is
}

// Meets: is an entry a row that was read?
func (r *rowsRead) Meets(_, value string) bool {
	if r.all {
		return true
	}
	row := unpacked(value)
	for _, terms := range r.where {
		if query.Holds(terms, row) {
			return true
		}
	}
	for _, k := range r.keys {
		if _, is := k.keys[k.key(row)]; is {
			return true
		}
	}
	return false
}

// definitionsOf tables of these names, whether there are such ones or not.
func (r *readings) definitionsOf(names []string) {
	d := &r.definitions
	if d.all {
		return
	}
	if d.names == nil {
		d.names = map[string]struct{}{}
	}
	for _, name := range names {
		d.names[name] = struct{}{}
	}
}

// allDefinitions that there are, or may be.
func (r *readings) allDefinitions() { r.definitions = definitionsRead{all: true} }

// of a table: what was read of its rows so far.
func (r *readings) of(t table) *rowsRead {
	if r.rows == nil {
		r.rows = map[int]*rowsRead{}
	}
	l := r.rows[t.number]
	if l == nil {
		l = &rowsRead{where: map[string][]bind.Term{}, keys: map[int]*keysRead{}}
		r.rows[t.number] = l
	}
	return l
}

// allRows of a table: it does not matter which of them were read before.
func (r *readings) allRows(t table) { *r.of(t) = rowsRead{all: true} }

// meeting rows: those that a statement asks for.
func (r *readings) meeting(tables []table, l []bind.Reading) {
	for _, x := range l {
		t := tables[x.Table]
		rows := r.of(t)
		switch {
		case rows.all:
		case len(x.Where) == 0:
			r.allRows(t)
		default:
			rows.where[x.Sign()] = x.Where
		}
	}
}

// alike: the rows of a table that have the values of these rows in the columns of an order, none of them null.
func (r *readings) alike(t table, o order, like [][]api.Value) {
	rows := r.of(t)
	if rows.all {
		return
	}
	k := rows.keys[o.number]
	if k == nil {
		k = &keysRead{o, map[string]struct{}{}}
		rows.keys[o.number] = k
	}
	for _, row := range like {
		if !o.isFree(row) {
			k.keys[o.key(row)] = struct{}{}
		}
	}
}

// watch all that was read.
func (r *readings) watch(x *mvcc.Tx) api.Errno {
	if e := x.Watch(catalog, "", "", &r.definitions); e != api.OK {
		return e
	}
	for number, rows := range r.rows {
		if e := x.Watch(number, "", "", rows); e != api.OK {
			return e
		}
	}
	return api.OK
}
