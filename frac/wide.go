package frac

import (
	"math/bits"

	"intervalmon/api"
)

// wide is a number of two words with a sign. Equal numbers are equal structs: 0 has no sign.
type wide struct {
	hi, lo   uint64
	negative bool
}

// sumOfProducts returns a*b + c*d, where the sizes of the numbers are at most MaxFrac: each product then has at most
// 125 bits, so that the sum needs no third word.
func sumOfProducts(a, b, c, d int) wide {
	return product(a, b).plus(product(c, d))
}

// product returns a * b.
func product(a, b int) wide {
	hi, lo := bits.Mul64(size(a), size(b))
	return wide{hi, lo, (a < 0) != (b < 0)}.normal()
}

// plus returns w + v.
func (w wide) plus(v wide) wide {
	if w.negative == v.negative {
		lo, carry := bits.Add64(w.lo, v.lo, 0)
		hi, _ := bits.Add64(w.hi, v.hi, carry)
		return wide{hi, lo, w.negative}
	}
	if w.smaller(v) {
		w, v = v, w
	}
	lo, borrow := bits.Sub64(w.lo, v.lo, 0)
	hi, _ := bits.Sub64(w.hi, v.hi, borrow)
	return wide{hi, lo, w.negative}.normal()
}

// smaller reports whether the size of w is less than that of v.
func (w wide) smaller(v wide) bool {
	return w.hi < v.hi || w.hi == v.hi && w.lo < v.lo
}

// normal removes the sign of 0.
func (w wide) normal() wide {
	w.negative = w.negative && (w.hi != 0 || w.lo != 0)
	return w
}

// modulo returns the remainder of the size of w divided by d.
func (w wide) modulo(d uint64) uint64 {
	return bits.Rem64(w.hi, w.lo, d)
}

// over returns w / d, where d divides w.
func (w wide) over(d uint64) wide {
	lo, _ := bits.Div64(w.hi%d, w.lo, d)
	return wide{w.hi / d, lo, w.negative}
}

// fits reports whether the size of w is at most MaxFrac.
func (w wide) fits() bool {
	return w.hi == 0 && w.lo <= api.MaxFrac
}

// number returns a number that fits.
func (w wide) number() int {
	if w.negative {
		return -int(w.lo)
	}
	return int(w.lo)
}
