package bind

import (
	"slices"

	"relstore/api"
)

// listing of a core's items: its columns, and what those are that are not the same as others.
type listing struct {
	list  *List
	terms []Term
	stars []int // of each source: the number of the part that all its columns are; -1: they do not come yet
}

// items of a core.
func (x setting) items(items []api.Item) ([]Term, *List) {
	l := &listing{list: x.newList(), stars: slices.Repeat([]int{-1}, len(x.here.sources))}
	for _, i := range items {
		if i.Star {
			x.star(l, i.Table)
			continue
		}
		t := x.term(i.Expr)
		x.here.fit(t)
		number := l.list.count.plus(sizeOf(1))
		l.list.addAll(x.single(itemName(i, number), t.Kind))
		l.terms = append(l.terms, t)
	}
	l.list.settle()
	return l.terms, l.list
}

// itemName: the name of the column that an item is; number: which one it is.
func itemName(i api.Item, number size) string {
	switch {
	case i.As != "":
		return i.As
	case i.Expr.Op == api.Col:
		return i.Expr.Name
	}
	return "column" + number.digits()
}

// star: all columns of the source of this name; of all sources, if there is no name.
func (x setting) star(l *listing, name string) {
	refuse(name == "" && len(x.here.sources) == 0, api.ErrForm)
	refuse(name != "" && !x.here.has(name), api.ErrName)
	for i, s := range x.here.sources {
		switch {
		case name != "" && name != s.name:
		case l.stars[i] >= 0:
			l.list.again(l.stars[i])
		default:
			x.starSource(l, i)
		}
	}
}

// starSource: all columns of a source, for the first time.
func (x setting) starSource(l *listing, source int) {
	list := x.here.sources[source].list
	for n := range list.columns {
		t := x.here.column(source, n)
		x.here.fit(t)
		l.terms = append(l.terms, t)
	}
	l.stars[source] = l.list.addAll(list)
}
