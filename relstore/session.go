package relstore

import "relstore/api"

// Session with a store.
type Session struct {
	store *Store
	open  *work // of the transaction that is open; nil: none is
}

// result of a statement.
func (c *Session) result(s api.Stmt) api.Result {
	var r api.Result
	if e := caught(func() { r = c.do(s) }); e != api.OK {
		return api.Result{Kind: s.Kind, Err: e}
	}
	r.Kind = s.Kind
	return r
}

// do a statement.
func (c *Session) do(s api.Stmt) api.Result {
	switch s.Kind {
	case api.Begin:
		refuse(c.open != nil, api.ErrState)
		c.open = c.store.begin()
	case api.Checkpoint:
		refuse(c.open != nil, api.ErrState)
		check(c.store.data.Checkpoint())
	case api.Commit, api.Rollback, api.Savepoint, api.Release:
		refuse(c.open == nil, api.ErrState)
		c.steer(s)
	default:
		if c.open == nil {
			return c.store.alone(s)
		}
		return c.open.attempt(s)
	}
	return api.Result{}
}

// steer the transaction that is open: it ends, or gets a point, or goes back to one, or forgets one.
func (c *Session) steer(s api.Stmt) {
	w := c.open
	switch {
	case s.Kind == api.Commit:
		c.open = nil
		w.commit()
	case s.Kind == api.Savepoint:
		w.points = append(w.points, point{s.Name, w.tx.Mark()})
	case s.Kind == api.Release:
		w.forget(w.last(s.Name))
	case s.Name != "":
		n := w.last(s.Name)
		w.backTo(w.points[n].mark)
		w.forget(n + 1)
	default:
		c.open = nil
		w.tx.Rollback()
	}
}

// alone: a statement that is a transaction of its own.
func (s *Store) alone(t api.Stmt) api.Result {
	w := s.begin()
	// It does nothing behind a commit.
	defer w.tx.Rollback()
	r := w.do(t)
	w.commit()
	return r
}
