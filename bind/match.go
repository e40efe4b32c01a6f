package bind

import (
	"iter"
	"slices"

	"relstore/api"
)

// maxPairs: how many columns of a call's lists are matched one by one at most. Long lists that are made alike, or that come again and again, are matched part by part; others may have more columns than could ever be looked at.
const maxPairs = 1 << 25

// What two stretches that must be remembered count for: what they are, or just that they were held against one another.
const (
	matchCost = 128
	heldCost  = 8
)

// shortList: so many columns are matched one by one, however they stand in their lists.
const shortList = 1 << 8

// pair of columns that stand at the same place in two lists.
type pair struct{ first, second int }

// match of stretches of two lists: a list of pairs.
type match struct {
	list          *List
	first, second *List
	pairs         []pair
	numbers       map[pair]int
}

// sides of a match: which stretches it is of.
type sides struct {
	first, second side
	count         size
}

// side: a stretch, by its list's number.
type side struct {
	list  int
	from  size
	round bool
}

// matched: two lists that have as many columns, place by place.
func (b *binder) matched(first, second *List) *match {
	m := b.newMatch(first, second)
	b.addStretches(m, stretchOf(first, size{}, first.count), stretchOf(second, size{}, first.count), first.count)
	m.list.settle()
	return m
}

func (b *binder) newMatch(first, second *List) *match {
	return &match{list: b.newList(), first: first, second: second, numbers: map[pair]int{}}
}

// addStretches of the lists of a match to it, side by side.
func (b *binder) addStretches(m *match, x, y stretch, count size) {
	b.addMatch(m, b.stretched(x, y, count), x.at, y.at)
}

// stretched: stretches of two lists, place by place.
func (b *binder) stretched(x, y stretch, count size) *match {
	key := sides{x.side(), y.side(), count}
	if m := b.matches[key]; m != nil {
		return m
	}
	b.spend(matchCost)
	m := b.newMatch(x.list, y.list)
	period, known := x.period(y)
	switch {
	case count.below(sizeOf(shortList)) || x.isWord() || y.isWord():
		b.addPairs(m, x.letters(count.small()), y.letters(count.small()))
	case known && period.below(count):
		b.addPeriods(m, x, y, count, period)
	default:
		for from, some := range b.pieces(x, y, count) {
			b.addStretches(m, x.rest(from, some), y.rest(from, some), some)
		}
	}
	m.list.settle()
	m.numbers = nil
	b.matches[key] = m
	return m
}

// spend: so much more is matched.
func (b *binder) spend(count int) {
	refuse(count > maxPairs-b.pairs, api.ErrLarge)
	b.pairs += count
}

// cuts of two stretches: where parts of them begin. If one comes again and again, those of the other one will do; if both do, those of the longer list.
func (b *binder) cuts(x, y stretch, count size) []size {
	switch {
	case x.round && (!y.round || x.list.count.below(y.list.count)):
		return b.cutsOf(y, count)
	case y.round:
		return b.cutsOf(x, count)
	}
	l := append(b.cutsOf(x, count), b.cutsOf(y, count)...)
	slices.SortFunc(l, size.compare)
	return slices.Compact(l)
}

// cutsOf a stretch, if they are not too many.
func (b *binder) cutsOf(s stretch, count size) []size {
	if s.round {
		often, _ := count.over(s.list.count)
		b.spend(often.small())
	}
	l := s.cuts(count)
	b.spend(len(l))
	return l
}

// pieces of two stretches, from cut to cut: from where on, and how many columns.
func (b *binder) pieces(x, y stretch, count size) iter.Seq2[size, size] {
	return func(yield func(size, size) bool) {
		from := size{}
		for _, to := range append(b.cuts(x, y, count), count) {
			if !yield(from, to.minus(from)) {
				return
			}
			from = to
		}
	}
}

// addPeriods of two stretches that both come again and again.
func (b *binder) addPeriods(m *match, x, y stretch, count, period size) {
	_, left := count.over(period)
	u, v := x.rest(size{}, period), y.rest(size{}, period)
	one := b.stretched(u, v, period)
	all := &match{list: b.newList(), first: one.first, second: one.second, pairs: one.pairs}
	all.list.columns, all.list.count = slices.Clone(one.list.columns), count.minus(left)
	all.list.repeat(one.list)
	for i := range all.list.columns {
		all.list.columns[i].many = all.list.columns[i].many || all.list.count != period
	}
	b.addMatch(m, all, u.at, v.at)
	if left != (size{}) {
		b.addStretches(m, x.rest(size{}, left), y.rest(size{}, left), left)
	}
}

// number of a pair, which may be a new one: a column of the list.
func (m *match) number(p pair) int {
	n, ok := m.numbers[p]
	if ok {
		m.list.columns[n].many = true
		return n
	}
	n = len(m.pairs)
	x, y := m.first.columns[p.first], m.second.columns[p.second]
	m.numbers[p] = n
	m.pairs = append(m.pairs, p)
	m.list.columns = append(m.list.columns, column{name: x.name, kind: alike(x.kind, y.kind)})
	return n
}

// addPairs of columns, one by one: they are all of the list.
func (b *binder) addPairs(m *match, first, second []int) {
	b.spend(len(first))
	for i := range first {
		m.list.word = append(m.list.word, m.number(pair{first[i], second[i]}))
	}
	m.list.count = sizeOf(len(first))
}

// addMatch of two parts, whose columns are these ones.
func (b *binder) addMatch(m, of *match, first, second []int) {
	b.spend(1 + len(of.pairs))
	at := make([]int, len(of.pairs))
	for i, p := range of.pairs {
		at[i] = m.number(pair{first[p.first], second[p.second]})
		many := of.list.columns[i].many
		m.list.columns[at[i]].many = many || m.list.columns[at[i]].many
	}
	m.list.addPart(part{of.list, at})
}
