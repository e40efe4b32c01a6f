package bind

import (
	"cmp"
	"math"
	"math/bits"
	"slices"
	"strconv"

	"relstore/api"
)

// size: how many columns there are, or where one stands: a number of 512 bits, the low ones first. Some sixty queries in one another may have more than a hundred stars each, so that no kind of number that the language has can count their columns.
type size [8]uint64

func sizeOf(n int) size { return size{uint64(n)} }

// bits that a size has, up to its highest one.
func (a size) bits() int {
	for i, word := range slices.Backward(a[:]) {
		if word != 0 {
			return 64*i + bits.Len64(word)
		}
	}
	return 0
}

func (a size) plus(b size) size {
	carry := uint64(0)
	for i := range a {
		a[i], carry = bits.Add64(a[i], b[i], carry)
	}
	// One bit is left, so that what is below twice a size is one, too.
	refuse(a.bits() == 64*len(a) || carry > 0, api.ErrLarge)
	return a
}

// minus a size that is not above it.
func (a size) minus(b size) size {
	borrow := uint64(0)
	for i := range a {
		a[i], borrow = bits.Sub64(a[i], b[i], borrow)
	}
	return a
}

// compare two sizes.
func (a size) compare(b size) int {
	for i := len(a) - 1; i >= 0; i-- {
		if a[i] != b[i] {
			return cmp.Compare(a[i], b[i])
		}
	}
	return 0
}

func (a size) below(b size) bool { return a.compare(b) < 0 }

// over another one: how often that is in it, and what is left.
func (a size) over(b size) (size, size) {
	var often, left size
	for i := a.bits() - 1; i >= 0; i-- {
		left = left.plus(left)
		left[0] |= a[i/64] >> (i % 64) & 1
		if !left.below(b) {
			left = left.minus(b)
			often[i/64] |= 1 << (i % 64)
		}
	}
	return often, left
}

// times another one.
func (a size) times(b size) size {
	var product size
	for i := b.bits() - 1; i >= 0; i-- {
		product = product.plus(product)
		if b[i/64]>>(i%64)&1 != 0 {
			product = product.plus(a)
		}
	}
	return product
}

// period of two: the least size that both are in without rest; false, if there is none that can be told.
func (a size) period(b size) (size, bool) {
	x, y := a, b
	for y != (size{}) {
		_, left := x.over(y)
		x, y = y, left
	}
	often, _ := a.over(x)
	if often.bits()+b.bits() >= 64*len(a) {
		return size{}, false
	}
	return often.times(b), true
}

// small: the number, or the greatest one that can be counted with.
func (a size) small() int {
	if a.bits() > 63 {
		return math.MaxInt
	}
	return int(a[0])
}

// digits of a size.
func (a size) digits() string {
	s := ""
	for a.bits() > 63 {
		often, left := a.over(sizeOf(10))
		s = strconv.Itoa(left.small()) + s
		a = often
	}
	return strconv.Itoa(a.small()) + s
}
