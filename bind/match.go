package bind

import (
	"slices"

	"relstore/api"
)

// maxPairs: how many columns of a call's lists are matched one by one at most. Long lists whose parts begin at the same places are matched part by part; others cannot be, and may have more columns than could ever be looked at.
const maxPairs = 1 << 25

// shortList: a list of so many columns is matched column by column, wherever its parts begin.
const shortList = 1 << 10

// pair of columns that stand at the same place in two lists.
type pair struct{ first, second int }

// match of two lists: a list of pairs.
type match struct {
	list          *List
	first, second *List
	pairs         []pair
	numbers       map[pair]int
}

// matched: two lists that have as many columns, place by place.
func (b *binder) matched(first, second *List) *match {
	lists := pair{first.number, second.number}
	if m := b.matches[lists]; m != nil {
		return m
	}
	m := &match{list: b.newList(), first: first, second: second, numbers: map[pair]int{}}
	left, right := first.pending(counted(0, len(first.columns))), second.pending(counted(0, len(second.columns)))
	for len(left) > 0 {
		x, y := top(&left), top(&right)
		switch {
		case x.of != nil && y.of != nil && x.of.count == y.of.count:
			m.addMatch(b.matched(x.of, y.of), x.at, y.at)
		case x.of != nil && (y.of == nil || above(x.of.count, y.of.count)):
			left, right = append(left, x.of.pending(x.at)...), append(right, y)
		case y.of != nil:
			left, right = append(left, x), append(right, y.of.pending(y.at)...)
		default:
			n := min(len(x.at), len(y.at))
			b.pairs += n
			refuse(b.pairs > maxPairs, api.ErrLarge)
			m.addPairs(x.at[:n], y.at[:n])
			left, right = leave(left, x.at[n:]), leave(right, y.at[n:])
		}
	}
	m.list.count = first.count
	m.list.settle()
	b.matches[lists] = m
	return m
}

// top of a stack of parts, which is taken off.
func top(l *[]part) part {
	p := (*l)[len(*l)-1]
	*l = (*l)[:len(*l)-1]
	return p
}

// leave what is left of a part on its stack.
func leave(l []part, at []int) []part {
	if len(at) == 0 {
		return l
	}
	return append(l, part{at: at})
}

// pending: the parts of a list whose columns are these ones of another one, the last one first.
func (l *List) pending(at []int) []part {
	if len(l.parts) == 0 {
		return []part{{at: at}}
	}
	parts := make([]part, len(l.parts))
	for i, p := range l.parts {
		parts[i] = part{p.of, picked(at, p.at)}
		if p.of != nil && small(p.of.count) <= shortList {
			parts[i] = part{at: spread(nil, p.of, parts[i].at)}
		}
	}
	stack := make([]part, 0, len(l.order))
	for _, number := range slices.Backward(l.order) {
		stack = append(stack, parts[number])
	}
	return stack
}

// number of a pair, which may be a new one: a column of the list.
func (m *match) number(p pair) int {
	n, ok := m.numbers[p]
	if ok {
		m.list.columns[n].many = true
		return n
	}
	n = len(m.pairs)
	x, y := m.first.columns[p.first], m.second.columns[p.second]
	m.numbers[p] = n
	m.pairs = append(m.pairs, p)
	m.list.columns = append(m.list.columns, column{name: x.name, kind: alike(x.kind, y.kind)})
	return n
}

// addPairs of columns, one behind the other. They go on with the part ahead of them, if that is one of pairs, too: a long list must not have a part for each of them.
func (m *match) addPairs(first, second []int) {
	l := m.list
	last := len(l.parts) - 1
	if last < 0 || l.parts[last].of != nil {
		l.addPart(part{})
		last++
	}
	for i := range first {
		l.parts[last].at = append(l.parts[last].at, m.number(pair{first[i], second[i]}))
	}
}

// addMatch of two parts, whose columns are these ones.
func (m *match) addMatch(of *match, first, second []int) {
	at := make([]int, len(of.pairs))
	for i, p := range of.pairs {
		at[i] = m.number(pair{first[p.first], second[p.second]})
		many := of.list.columns[i].many
		m.list.columns[at[i]].many = many || m.list.columns[at[i]].many
	}
	m.list.addPart(part{of: of.list, at: at})
}
