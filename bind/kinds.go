package bind

import (
	"slices"

	"relstore/api"
)

// kindsFor a list: what the kinds of another one are to it. If both have columns of one kind at most, and it has no nulls itself, those of the other one do not matter.
func (b *binder) kindsFor(l, other *List) *List {
	kind := l.columns[0].kind
	isNull := func(c column) bool { return c.kind == api.Null }
	isElse := func(c column) bool { return c.kind != api.Null && c.kind != kind }
	if slices.ContainsFunc(l.columns, isNull) || slices.ContainsFunc(l.columns, isElse) || slices.ContainsFunc(other.columns, isElse) {
		return b.kindsOf(other)
	}
	return b.uniform(kind, l.count)
}

// uniform: so many columns of one kind.
func (b *binder) uniform(kind int, count size) *List {
	letter := b.letters[kind]
	if letter == nil {
		letter = b.single("", kind)
		b.letters[kind] = letter
	}
	if count == letter.count {
		return letter
	}
	l := b.newList()
	l.columns, l.count = letter.columns, count
	l.repeat(letter)
	return l
}

// kindsOf a list: as many columns, of which those of one kind are one and the same. So there is less to be matched, and lists of one kind are alike, however they are made.
func (b *binder) kindsOf(l *List) *List {
	if k := b.kinds[l.number]; k != nil {
		return k
	}
	var kinds []int
	for _, c := range l.columns {
		if !slices.Contains(kinds, c.kind) {
			kinds = append(kinds, c.kind)
		}
	}
	k := b.uniform(kinds[0], l.count)
	if len(kinds) > 1 {
		k = b.mixed(l, kinds)
	}
	b.kinds[l.number] = k
	return k
}

// mixed: the kinds of a list that has several.
func (b *binder) mixed(l *List, kinds []int) *List {
	k := b.newList()
	k.count, k.order = l.count, l.order
	for _, kind := range kinds {
		k.columns = append(k.columns, column{kind: kind})
	}
	at := func(c column) int { return slices.Index(kinds, c.kind) }
	for _, n := range l.word {
		k.word = append(k.word, at(l.columns[n]))
	}
	for _, p := range l.parts {
		of := b.kindsOf(p.of)
		k.parts = append(k.parts, part{of, mapped(of.columns, at)})
	}
	if l.base != nil {
		k.repeat(b.kindsOf(l.base))
	}
	return k
}

// mapped: what comes of each one of a list.
func mapped[T, U any](l []T, f func(T) U) []U {
	m := make([]U, len(l))
	for i, x := range l {
		m[i] = f(x)
	}
	return m
}
