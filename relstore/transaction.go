package relstore

import (
	"slices"

	"relstore/api"
	"relstore/mvcc"
)

// work of a transaction: what it does, and what must be known of it till it is over.
type work struct {
	*Store
	tx      *mvcc.Tx
	points  []point
	read    readings
	dropped []drop
}

// point to which a transaction can go back: how many writes it had made.
type point struct {
	name string
	mark int
}

// drop of an index: the number of its table of entries, and how many writes had been made ahead of it.
type drop struct{ number, mark int }

// begin a transaction.
func (s *Store) begin() *work { return &work{Store: s, tx: s.data.Begin()} }

// attempt a statement. One that is refused has done nothing, but what it has read stays read.
func (w *work) attempt(s api.Stmt) api.Result {
	mark := w.tx.Mark()
	var r api.Result
	if e := caught(func() { r = w.do(s) }); e != api.OK {
		w.backTo(mark)
		panic(fault{e})
	}
	return r
}

// backTo so many writes.
func (w *work) backTo(mark int) {
	check(w.tx.BackTo(mark))
	w.dropped = slices.DeleteFunc(w.dropped, func(d drop) bool { return d.mark >= mark })
}

// last point of this name: its number.
func (w *work) last(name string) int {
	for i, p := range slices.Backward(w.points) {
		if p.name == name {
			return i
		}
	}
	panic(fault{api.ErrMissing})
}

// forget the points from this number on.
func (w *work) forget(from int) {
	w.points = slices.Delete(w.points, from, len(w.points))
}

// commit all that stands. The transaction is over, whatever comes.
func (w *work) commit() {
	// It does nothing behind a commit.
	defer w.tx.Rollback()
	w.sweep()
	check(w.read.watch(w.tx))
	check(w.tx.Commit())
}

// sweep: who drops an index has not read the rows, so that others may have turned some since: what came to its table of entries by that goes, too.
func (w *work) sweep() {
	now := w.data.Begin()
	defer now.Rollback()
	for _, d := range w.dropped {
		l, e := now.Peek(d.number, "", "")
		check(e)
		for _, n := range l {
			w.erase(d.number, n.Key)
		}
	}
}
