package bind

import (
	"math/bits"
	"slices"

	"relstore/api"
)

// A list of kinds has no columns: its word is kinds. One of which the kinds come again and again, however it is made, is told so, and need not end where they do. It may have layers: lists of as many kinds, of which at each place those that are not null are the same, and count.

// kindsOf a list.
func (b *binder) kindsOf(l *List) *List {
	if k := b.kinds[l.number]; k != nil {
		return k
	}
	k := b.newList()
	switch {
	case l.base != nil:
		k = b.repeated(b.kindsOf(l.base), l.count)
	case len(l.parts) == 0:
		k = b.repeated(b.rootOf(mapped(l.word, func(n int) int { return l.columns[n].kind }), false), l.count)
	default:
		k.count, k.order = l.count, l.order
		for _, p := range l.parts {
			of := b.kindsOf(p.of)
			k.parts = append(k.parts, part{of: of})
			k.mask |= of.mask
		}
		if root := b.rootOfParts(k); root != nil {
			k = b.repeated(root, l.count)
		}
	}
	b.kinds[l.number] = k
	return k
}

// repeated: so many kinds, of a list that comes again and again.
func (b *binder) repeated(l *List, count size) *List {
	if l.count == count {
		return l
	}
	k := b.newList()
	k.count, k.mask = count, l.mask
	k.repeat(l)
	return k
}

// mapped: what comes of each one of a list.
func mapped[T, U any](l []T, f func(T) U) []U {
	m := make([]U, len(l))
	for i, x := range l {
		m[i] = f(x)
	}
	return m
}

// nullMask: of null alone.
const nullMask = 1 << api.Null

// layered: kinds of which at each place those of both count.
func (b *binder) layered(x, y *List) *List {
	if y.mask&nullMask == 0 {
		return y
	}
	if root := b.rootOfLayers(x, y); root != nil {
		return b.repeated(root, x.count)
	}
	k := b.newList()
	k.count, k.mask = x.count, x.mask|y.mask
	k.layers = append(slices.Clone(x.layers), y)
	if len(x.layers) == 0 {
		k.layers = []*List{x, y}
	}
	return k
}

// joined: the columns of a query, with a core more, whose columns must be alike: just those that are null may be of another kind then.
func (b *binder) joined(l, further *List) *List {
	x, y := b.kindsOf(l), b.kindsOf(further)
	b.hold(stretchOf(x, size{}, x.count), stretchOf(y, size{}, x.count), x.count)
	if x.mask&nullMask == 0 || y.mask == nullMask {
		return l
	}
	k := b.layered(x, y)
	j := b.newList()
	j.columns = slices.Clone(l.columns)
	for i, c := range j.columns {
		// Of what comes more than once no name tells the kind.
		if c.kind == api.Null && !c.many {
			j.columns[i].kind = k.kindsAt(nil, l.placeOf(i), 1)[0]
		}
	}
	j.addPart(part{l, counted(0, len(l.columns))})
	if j.count == sizeOf(len(j.columns)) {
		j.settle()
	} else {
		b.kinds[j.number] = k
	}
	return j
}

// placeOf a column: the first one.
func (l *List) placeOf(column int) size {
	if l.base != nil {
		return l.base.placeOf(column)
	}
	place := size{}
	for _, number := range l.order {
		p := l.parts[number]
		if i := slices.Index(p.at, column); i >= 0 {
			return place.plus(p.of.placeOf(i))
		}
		place = place.plus(p.of.count)
	}
	return sizeOf(slices.Index(l.word, column))
}

// hold stretches of kinds against one another: at each place they must be alike.
func (b *binder) hold(x, y stretch, count size) {
	if bits.OnesCount((x.list.mask|y.list.mask)&^nullMask) < 2 {
		return
	}
	key := sides{x.side(), y.side(), count}
	if _, is := b.held[key]; is {
		return
	}
	b.spend(heldCost)
	b.held[key] = struct{}{}
	switch {
	case len(x.list.layers) > 0:
		for _, l := range x.list.layers {
			b.hold(x.in(l, count), y, count)
		}
	case len(y.list.layers) > 0:
		b.hold(y, x, count)
	case count.below(sizeOf(shortList)) || x.isWord() || y.isWord():
		b.holdEach(x.kinds(count.small()), y.kinds(count.small()))
	default:
		b.holdPieces(x, y, count)
	}
}

// holdEach kind of a list against one of another one.
func (b *binder) holdEach(x, y []int) {
	b.spend(len(x))
	for i := range x {
		alike(x[i], y[i])
	}
}

// holdPieces of two stretches, from cut to cut. If both come again and again, so do their pieces.
func (b *binder) holdPieces(x, y stretch, count size) {
	if period, known := x.period(y); known && period.below(count) {
		b.hold(x.rest(size{}, period), y.rest(size{}, period), period)
		return
	}
	for from, some := range b.pieces(x, y, count) {
		b.hold(x.rest(from, some), y.rest(from, some), some)
	}
}

// kinds of so many places of a stretch.
func (s stretch) kinds(count int) []int {
	if s.round {
		return s.list.kindsAgain(nil, s.from, count)
	}
	return s.list.kindsAt(nil, s.from, count)
}

// kindsAt so many places, from one on: they come to some others.
func (l *List) kindsAt(out []int, from size, count int) []int {
	if l.base != nil {
		return l.base.kindsAgain(out, from, count)
	}
	if len(l.layers) > 0 {
		return append(out, l.layersAt(from, count)...)
	}
	if len(l.parts) == 0 {
		return append(out, l.word[from.small():from.small()+count]...)
	}
	n, begin := l.partAt(from)
	from = from.minus(begin)
	for ; count > 0; n++ {
		of := l.parts[l.order[n]].of
		some := min(count, of.count.minus(from).small())
		out = of.kindsAt(out, from, some)
		from, count = size{}, count-some
	}
	return out
}

// kindsAgain: likewise, of a list that comes again and again.
func (l *List) kindsAgain(out []int, from size, count int) []int {
	_, from = from.over(l.count)
	some := min(count, l.count.minus(from).small())
	begin := len(out)
	out = l.kindsAt(out, from, some)
	out = l.kindsAt(out, size{}, min(count-some, from.small()))
	return again(out, begin, count)
}

// layersAt: likewise, of layers.
func (l *List) layersAt(from size, count int) []int {
	out := make([]int, count)
	for _, layer := range l.layers {
		for i, kind := range layer.kindsAt(nil, from, count) {
			out[i] = max(out[i], kind)
		}
	}
	return out
}
