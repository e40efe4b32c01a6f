package bind

// stretch of a list: the least list that has all of it, and from where on.
type stretch struct {
	list  *List
	from  size
	round bool  // the list comes again and again
	at    []int // which columns its columns are of the list that was asked
}

// stretchOf a list: so many columns from a place on.
func stretchOf(l *List, from, count size) stretch {
	s := stretch{list: l, from: from, at: counted(0, len(l.columns))}
	for s.narrow(count) {
	}
	return s
}

// narrow the list to a part of it, if that has all of the stretch.
func (s *stretch) narrow(count size) bool {
	if base := s.list.base; base != nil {
		_, s.from = s.from.over(base.count)
		s.list, s.round = base, base.count.below(s.from.plus(count))
		return !s.round
	}
	if len(s.list.parts) == 0 {
		return false
	}
	n, begin := s.list.partAt(s.from)
	p, from := s.list.parts[s.list.order[n]], s.from.minus(begin)
	if p.of.count.below(from.plus(count)) {
		return false
	}
	s.list, s.from, s.at = p.of, from, picked(s.at, p.at)
	return true
}

func (s stretch) side() side { return side{s.list.number, s.from, s.round} }

// isWord: are its columns told one by one?
func (s stretch) isWord() bool { return !s.round && len(s.list.parts) == 0 }

// period of two stretches that both come again and again, if it can be told.
func (s stretch) period(t stretch) (size, bool) {
	if !s.round || !t.round {
		return size{}, false
	}
	return s.list.count.period(t.list.count)
}

// in another list of as many columns as its own one: the same stretch.
func (s stretch) in(l *List, count size) stretch {
	if !s.round {
		return stretchOf(l, s.from, count)
	}
	t := stretch{list: l, from: s.from, round: true}
	if l.isWhole() {
		t.list = l.base
		_, t.from = s.from.over(l.base.count)
	}
	return t
}

// rest of a stretch, behind so many columns: so many.
func (s stretch) rest(behind, count size) stretch {
	from := s.from.plus(behind)
	if s.round {
		_, from = from.over(s.list.count)
		if s.list.count.below(from.plus(count)) {
			return stretch{s.list, from, true, counted(0, len(s.list.columns))}
		}
	}
	return stretchOf(s.list, from, count)
}

// cuts of a stretch: where parts of it begin, but the first one.
func (s stretch) cuts(count size) []size {
	var l []size
	if s.round {
		for cut := s.list.count.minus(s.from); cut.below(count); cut = cut.plus(s.list.count) {
			l = append(l, cut)
		}
		return l
	}
	n, _ := s.list.partAt(s.from)
	for _, begin := range s.list.begins[n+1:] {
		if !begin.below(s.from.plus(count)) {
			break
		}
		l = append(l, begin.minus(s.from))
	}
	return l
}

// letters: which columns of its list so many from its beginning on are.
func (s stretch) letters(count int) []int {
	if !s.round {
		return s.list.letters(nil, s.from, count)
	}
	var l []int
	from := s.from
	for len(l) < count {
		many := min(count-len(l), s.list.count.minus(from).small())
		l = s.list.letters(l, from, many)
		from = size{}
	}
	return l
}

// letters: to some numbers come those of so many columns of a list, from a place on.
func (l *List) letters(out []int, from size, count int) []int {
	s := stretchOf(l, from, sizeOf(count))
	if s.round || s.list != l {
		return append(out, picked(s.at, s.letters(count))...)
	}
	if len(l.parts) == 0 {
		return append(out, l.word[from.small():from.small()+count]...)
	}
	behind := 0
	for _, cut := range append(s.cuts(sizeOf(count)), sizeOf(count)) {
		out = l.letters(out, from.plus(sizeOf(behind)), cut.small()-behind)
		behind = cut.small()
	}
	return out
}
