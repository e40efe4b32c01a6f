package sql

import "relstore/api"

// highOf an expression: one more than the highest part of it.
func highOf(e api.Expr) int {
	high := highest(e.Args)
	for _, q := range e.Sub {
		high = max(high, highOfQuery(q))
	}
	return high + 1
}

// highest of expressions; 0: there is none.
func highest(l []api.Expr) int {
	high := 0
	for _, e := range l {
		high = max(high, highOf(e))
	}
	return high
}

// highOfQuery: as high as the highest expression in it; one more than a query that it has for a source.
func highOfQuery(q api.Select) int {
	high := 0
	for _, c := range q.Cores {
		high = max(high, highOfCore(c))
	}
	for _, o := range q.Order {
		high = max(high, highOf(o.Expr))
	}
	return high
}

func highOfCore(c api.Core) int {
	high := max(highest(c.Where), highest(c.Group), highest(c.Having))
	for _, i := range c.Items {
		if !i.Star {
			high = max(high, highOf(i.Expr))
		}
	}
	for _, f := range c.From {
		high = max(high, highest(f.On))
		for _, q := range f.Sub {
			high = max(high, highOfQuery(q)+1)
		}
	}
	return high
}
