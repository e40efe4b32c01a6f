package mvcc

import "slices"

// write of a transaction: what an entry becomes.
type write struct {
	place
	image
	prior int // which write it was that told of this place before; -1: none did
}

// draft: the writes of a transaction that stand.
type draft struct {
	writes []write
	latest []int // the last write of each place, in the order of the places
}

// find a place: where it stands among the latest writes, and whether it does.
func (d *draft) find(p place) (int, bool) {
	return slices.BinarySearchFunc(d.latest, p, func(i int, p place) int {
		return d.writes[i].place.compare(p)
	})
}

// put one write more.
func (d *draft) put(p place, m image) {
	n := len(d.writes)
	at, is := d.find(p)
	if is {
		d.writes = append(d.writes, write{p, m, d.latest[at]})
		d.latest[at] = n
		return
	}
	d.writes = append(d.writes, write{p, m, -1})
	d.latest = slices.Insert(d.latest, at, n)
}

// backTo so many writes: the last one goes first, so that each finds its prior one.
func (d *draft) backTo(mark int) {
	for _, w := range slices.Backward(d.writes[mark:]) {
		at, _ := d.find(w.place)
		if w.prior < 0 {
			d.latest = slices.Delete(d.latest, at, at+1)
		} else {
			d.latest[at] = w.prior
		}
	}
	d.writes = slices.Delete(d.writes, mark, len(d.writes))
}

// image of an entry, if it was written.
func (d *draft) image(p place) (image, bool) {
	at, is := d.find(p)
	if !is {
		return image{}, false
	}
	return d.writes[d.latest[at]].image, true
}

// changes of a range, in order.
func (d *draft) changes(r span) []change {
	var l []change
	first, _ := d.find(place{r.table, r.from})
	for _, i := range d.latest[first:] {
		w := d.writes[i]
		if !r.holds(w.place) {
			break
		}
		l = append(l, change{w.key, w.image})
	}
	return l
}

// final writes: the last one of each place, in the order of the places.
func (d *draft) final() []write {
	l := make([]write, 0, len(d.latest))
	for _, i := range d.latest {
		l = append(l, d.writes[i])
	}
	return l
}
