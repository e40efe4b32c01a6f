package bind

import (
	"sort"

	"relstore/api"
)

// maxWide: how many columns are written out at most, all rows together: there would be no memory for more.
const maxWide = 1 << 27

// List of columns. Each star of a query that is a source of another one may double its columns, up to more than there is memory for: so a list has those just once that are one and the same, in the order in which they first come, and tells how all of them stand: one by one; in parts, which are lists; or as another list that comes again and again.
type List struct {
	number  int // among the lists of a call
	columns []column
	count   size    // of all
	word    []int   // which columns they are, one by one
	parts   []part  // of what it is made
	order   []int   // the parts' numbers, one behind the other
	begins  []size  // where these begin, once that was asked
	base    *List   // what comes again and again: it has the same columns
	layers  []*List // of kinds
	mask    uint    // which kinds it has, if it is a list of kinds
}

// column of a list.
type column struct {
	name string
	kind int
	many bool // it comes more than once, so that no name tells it
}

// part of a list: another one, and which columns of the list those of it are.
type part struct {
	of *List
	at []int
}

// newList without columns.
func (b *binder) newList() *List {
	b.lists++
	return &List{number: b.lists}
}

// tableList: the columns of a table.
func (b *binder) tableList(columns []api.ColumnDef) *List {
	l := b.newList()
	for _, c := range columns {
		l.columns = append(l.columns, column{name: c.Name, kind: c.Kind})
	}
	l.count = sizeOf(len(columns))
	l.settle()
	return l
}

// single column: a list.
func (b *binder) single(name string, kind int) *List {
	return b.tableList([]api.ColumnDef{{Name: name, Kind: kind}})
}

// addAll columns of another list, which has none of this one's: the number of the part that they are.
func (l *List) addAll(m *List) int {
	p := part{m, counted(len(l.columns), len(m.columns))}
	l.columns = append(l.columns, m.columns...)
	return l.addPart(p)
}

// addPart behind the others: its number.
func (l *List) addPart(p part) int {
	l.count = l.count.plus(p.of.count)
	l.order = append(l.order, len(l.parts))
	l.parts = append(l.parts, p)
	return len(l.parts) - 1
}

// again: a part comes once more.
func (l *List) again(number int) {
	l.order = append(l.order, number)
	l.count = l.count.plus(l.parts[number].of.count)
	for _, at := range l.parts[number].at {
		l.columns[at].many = true
	}
}

// counted: so many numbers from one on.
func counted(from, count int) []int {
	l := make([]int, count)
	for i := range l {
		l[i] = from + i
	}
	return l
}

// settle a list that is whole: how its columns stand is told in the plainest way.
func (l *List) settle() {
	switch {
	case l.count == sizeOf(len(l.columns)):
		l.word, l.parts, l.order = counted(0, len(l.columns)), nil, nil
	case len(l.parts) == 1:
		l.repeat(l.parts[0].of)
		l.parts, l.order = nil, nil
	}
}

// repeat another list, which has the same columns.
func (l *List) repeat(m *List) {
	l.base = m
	if m.isWhole() {
		l.base = m.base
	}
}

// isWhole: does it come again and again, and end where what comes ends?
func (l *List) isWhole() bool {
	if l.base == nil {
		return false
	}
	_, left := l.count.over(l.base.count)
	return left == size{}
}

// partAt a place: which one of the order it is, and where it begins.
func (l *List) partAt(place size) (int, size) {
	if len(l.begins) == 0 {
		begin := size{}
		for _, number := range l.order {
			l.begins = append(l.begins, begin)
			begin = begin.plus(l.parts[number].of.count)
		}
	}
	n := sort.Search(len(l.begins), func(i int) bool { return place.below(l.begins[i]) }) - 1
	return n, l.begins[n]
}

// named: the first column of this name; -1, if there is none.
func (l *List) named(name string) int {
	for i, c := range l.columns {
		if c.name == name {
			return i
		}
	}
	return -1
}

// nth column of all, from 0 on; -1, if there are not so many.
func (l *List) nth(n int) int {
	if n >= l.count.small() {
		return -1
	}
	if l.base != nil {
		return l.base.nth(n % l.base.count.small())
	}
	for _, number := range l.order {
		p := l.parts[number]
		if many := p.of.count.small(); n >= many {
			n -= many
			continue
		}
		return p.at[p.of.nth(n)]
	}
	return l.word[n]
}

// Written: all columns of a list, one by one. ErrLarge, if there would be no memory for them.
func (l *List) Written() ([]api.Column, api.Errno) {
	each := make([]api.Column, len(l.columns))
	for i, c := range l.columns {
		each[i] = api.Column{Name: c.name, Kind: c.kind}
	}
	rows, e := Spread(l, [][]api.Column{each})
	if e != api.OK {
		return nil, e
	}
	return rows[0], api.OK
}

// Spread: of rows that have something of each column just once that is not the same as another one: rows with what there is of all columns. ErrLarge, if there would be no memory for them.
func Spread[T any](l *List, rows [][]T) ([][]T, api.Errno) {
	n := l.count.small()
	if n == len(l.columns) {
		return rows, api.OK
	}
	if n > maxWide/max(len(rows), 1) {
		return nil, api.ErrLarge
	}
	wide := make([][]T, len(rows))
	for i, r := range rows {
		wide[i] = spread(make([]T, 0, n), l, r)
	}
	return wide, api.OK
}

func spread[T any](out []T, l *List, each []T) []T {
	from := len(out)
	if l.base != nil {
		return again(spread(out, l.base, each), from, l.count.small())
	}
	written := make([][2]int, len(l.parts)) // from where to where in out
	for _, number := range l.order {
		if w := written[number]; w[1] > 0 {
			out = append(out, out[w[0]:w[1]]...)
			continue
		}
		p, begin := l.parts[number], len(out)
		out = spread(out, p.of, picked(each, p.at))
		written[number] = [2]int{begin, len(out)}
	}
	return append(out, picked(each, l.word)...)
}

// again: what stands from a place on comes again, up to so many.
func again[T any](out []T, from, count int) []T {
	for done := len(out) - from; done < count; done = len(out) - from {
		out = append(out, out[from:from+min(done, count-done)]...)
	}
	return out
}

// picked: those of a list that stand at these places.
func picked[T any](l []T, at []int) []T {
	some := make([]T, len(at))
	for i, n := range at {
		some[i] = l[n]
	}
	return some
}
