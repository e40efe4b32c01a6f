package bind

import (
	"math"
	"strconv"

	"relstore/api"
)

// maxWide: how many columns are written out at most, all rows together: there would be no memory for more.
const maxWide = 1 << 27

// List of columns. Each star of a query that is a source of another one may double its columns, up to more than there is memory for: so a list has those just once that are one and the same, in the order in which they first come, and tells in parts how all of them stand.
type List struct {
	number  int // among the lists of a call
	columns []column
	parts   []part // none: each column comes once
	order   []int  // the parts' numbers, one behind the other
	count   string // how many columns there are in all, in digits
}

// column of a list.
type column struct {
	name string
	kind int
	many bool // it comes more than once, so that no name tells it
}

// part of a list: some of its columns, one behind the other; or all columns of another list, and which ones of this list they are.
type part struct {
	of *List
	at []int
}

// newList without columns.
func (b *binder) newList() *List {
	b.lists++
	return &List{number: b.lists, count: "0"}
}

// tableList: the columns of a table.
func (b *binder) tableList(columns []api.ColumnDef) *List {
	l := b.newList()
	for _, c := range columns {
		l.columns = append(l.columns, column{name: c.Name, kind: c.Kind})
	}
	l.count = strconv.Itoa(len(columns))
	return l
}

// add one more column.
func (l *List) add(name string, kind int) {
	at := len(l.columns)
	l.columns = append(l.columns, column{name: name, kind: kind})
	l.count = plus(l.count, "1")
	l.addPart(part{at: []int{at}})
}

// addAll columns of another list, which has none of this one's: the number of the part that they are.
func (l *List) addAll(m *List) int {
	p := part{of: m, at: counted(len(l.columns), len(m.columns))}
	l.columns = append(l.columns, m.columns...)
	l.count = plus(l.count, m.count)
	l.addPart(p)
	return len(l.parts) - 1
}

// addPart behind the others.
func (l *List) addPart(p part) {
	l.order = append(l.order, len(l.parts))
	l.parts = append(l.parts, p)
}

// again: a part that is another list comes once more.
func (l *List) again(number int) {
	l.order = append(l.order, number)
	l.count = plus(l.count, l.parts[number].of.count)
	for _, at := range l.parts[number].at {
		l.columns[at].many = true
	}
}

// counted: so many numbers from one on.
func counted(from, count int) []int {
	l := make([]int, count)
	for i := range l {
		l[i] = from + i
	}
	return l
}

// size of a part: how many columns it has.
func (p part) size() int {
	if p.of != nil {
		return small(p.of.count)
	}
	return len(p.at)
}

// settle a list that is whole: if each column comes once, no part has to tell how they stand.
func (l *List) settle() {
	if l.count == strconv.Itoa(len(l.columns)) {
		l.parts, l.order = nil, nil
	}
}

// named: the first column of this name; -1, if there is none.
func (l *List) named(name string) int {
	for i, c := range l.columns {
		if c.name == name {
			return i
		}
	}
	return -1
}

// nth column of all, from 0 on; -1, if there are not so many.
func (l *List) nth(n int) int {
	if len(l.parts) == 0 && n < len(l.columns) {
		return n
	}
	for _, number := range l.order {
		p := l.parts[number]
		switch {
		case n >= p.size():
			n -= p.size()
		case p.of == nil:
			return p.at[n]
		default:
			return p.at[p.of.nth(n)]
		}
	}
	return -1
}

// small: a number in digits, or the greatest one that can be counted with.
func small(digits string) int {
	n, err := strconv.Atoi(digits)
	if err != nil {
		return math.MaxInt
	}
	return n
}

// Written: all columns of a list, one by one. ErrLarge, if there would be no memory for them.
func (l *List) Written() ([]api.Column, api.Errno) {
	each := make([]api.Column, len(l.columns))
	for i, c := range l.columns {
		each[i] = api.Column{Name: c.name, Kind: c.kind}
	}
	rows, e := Spread(l, [][]api.Column{each})
	if e != api.OK {
		return nil, e
	}
	return rows[0], api.OK
}

// Spread: of rows that have something of each column just once that is not the same as another one: rows with what there is of all columns. ErrLarge, if there would be no memory for them.
func Spread[T any](l *List, rows [][]T) ([][]T, api.Errno) {
	if len(l.parts) == 0 {
		return rows, api.OK
	}
	n := small(l.count)
	if n > maxWide/max(len(rows), 1) {
		return nil, api.ErrLarge
	}
	wide := make([][]T, len(rows))
	for i, r := range rows {
		wide[i] = spread(make([]T, 0, n), l, r)
	}
	return wide, api.OK
}

func spread[T any](out []T, l *List, each []T) []T {
	if len(l.parts) == 0 {
		return append(out, each...)
	}
	written := make([][2]int, len(l.parts)) // from where to where in out
	for _, number := range l.order {
		if w := written[number]; w[1] > 0 {
			out = append(out, out[w[0]:w[1]]...)
			continue
		}
		p, from := l.parts[number], len(out)
		some := picked(each, p.at)
		if p.of == nil {
			out = append(out, some...)
		} else {
			out = spread(out, p.of, some)
		}
		written[number] = [2]int{from, len(out)}
	}
	return out
}

// picked: those of a list that stand at these places.
func picked[T any](l []T, at []int) []T {
	some := make([]T, len(at))
	for i, n := range at {
		some[i] = l[n]
	}
	return some
}
