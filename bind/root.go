package bind

import "slices"

// maxRoot: how long the roots are that are looked for where lists are made of parts.
const maxRoot = 1 << 10

// rootOf some kinds: the shortest list that they are when it comes again and again; round: they do so themselves. There is one list of each root.
func (b *binder) rootOf(kinds []int, round bool) *List {
	if step := stepOf(kinds); !round || len(kinds)%step == 0 {
		kinds = kinds[:step]
	}
	name := string(mapped(kinds, func(kind int) byte { return byte(kind) }))
	if b.roots[name] == nil {
		l := b.newList()
		l.word, l.count = kinds, sizeOf(len(kinds))
		for _, kind := range kinds {
			l.mask |= 1 << kind
		}
		b.roots[name] = l
	}
	return b.roots[name]
}

// stepOf some kinds: by how many places they can be shifted so that they are the same ones as before, as far as they go.
func stepOf(kinds []int) int {
	// How much of what ends at a place, but for all of it, is what they begin with.
	same := make([]int, len(kinds)+1)
	same[0] = -1
	n := -1
	for i, kind := range kinds {
		for n >= 0 && kinds[n] != kind {
			n = same[n]
		}
		n++
		same[i+1] = n
	}
	return len(kinds) - n
}

// step of a list of kinds that come again and again: how many these are; false, if they do not, or are too many.
func (l *List) step() (int, bool) {
	step := l.count
	if l.base != nil {
		step = l.base.count
	}
	return step.small(), !sizeOf(maxRoot).below(step)
}

// rootOfParts: what comes again and again in a list that is made of parts; nil, if there is no such thing. It comes by the step of the longest part.
func (b *binder) rootOfParts(k *List) *List {
	if k.count.below(sizeOf(2 * maxRoot)) {
		return b.rootOf(k.kindsAt(nil, size{}, k.count.small()), false)
	}
	longest := slices.MaxFunc(k.parts, func(p, q part) int { return p.of.count.compare(q.of.count) })
	step, is := longest.of.step()
	if !is {
		return nil
	}
	first := k.kindsAt(nil, size{}, step)
	shifts := mapped(k.parts, func(p part) int {
		_, left := p.of.count.over(sizeOf(step))
		return left.small()
	})
	place, asked := 0, map[[2]int]struct{}{}
	for _, number := range k.order {
		key := [2]int{number, place}
		if _, is := asked[key]; !is && !follows(k.parts[number].of, first, place) {
			return nil
		}
		asked[key] = struct{}{}
		place = (place + shifts[number]) % step
	}
	return b.rootOf(first, true)
}

// follows: is a list what some kinds are when they come again and again, from a place of theirs on?
func follows(l *List, kinds []int, from int) bool {
	step, is := l.step()
	if !is {
		return false
	}
	// Two that come again and again are the same if they are so as far as both steps go.
	for i, kind := range l.kindsAt(nil, size{}, min(l.count.small(), step+len(kinds))) {
		if kind != kinds[(from+i)%len(kinds)] {
			return false
		}
	}
	return true
}

// rootOfLayers: likewise of two lists, one upon the other.
func (b *binder) rootOfLayers(x, y *List) *List {
	m, isM := x.step()
	n, isN := y.step()
	if !isM || !isN {
		return nil
	}
	period, _ := sizeOf(m).period(sizeOf(n))
	some := min(period.small(), x.count.small())
	if some > 8*maxRoot {
		return nil
	}
	both := List{layers: []*List{x, y}}
	return b.rootOf(both.kindsAt(nil, size{}, some), period.below(x.count))
}
