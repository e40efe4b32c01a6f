package relstore

import (
	"slices"

	"relstore/api"
)

// names of tables, each once.
type names []string

// namesIn a statement: the tables that it speaks of. (In a CHECK no table may be spoken of.)
func namesIn(s api.Stmt) []string {
	var n names
	n.add(s.Table)
	for _, q := range s.Query {
		n.query(q)
	}
	for _, row := range s.Rows {
		n.exprs(row)
	}
	for _, x := range s.Sets {
		n.expr(x.Expr)
	}
	n.exprs(s.Where)
	return n
}

// add a name, if there is one.
func (n *names) add(name string) {
	if name != "" && !slices.Contains(*n, name) {
		*n = append(*n, name)
	}
}

func (n *names) query(q api.Select) {
	for _, c := range q.Cores {
		n.core(c)
	}
	for _, o := range q.Order {
		n.expr(o.Expr)
	}
}

func (n *names) core(c api.Core) {
	for _, f := range c.From {
		n.add(f.Table)
		for _, q := range f.Sub {
			n.query(q)
		}
		n.exprs(f.On)
	}
	n.exprs(c.Where)
	n.exprs(c.Group)
	for _, i := range c.Items {
		n.expr(i.Expr)
	}
	n.exprs(c.Having)
}

func (n *names) exprs(l []api.Expr) {
	for _, e := range l {
		n.expr(e)
	}
}

func (n *names) expr(e api.Expr) {
	n.exprs(e.Args)
	for _, q := range e.Sub {
		n.query(q)
	}
}
