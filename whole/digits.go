package whole

import "slices"

// base is what a digit is below; digits stand with the least one first.
const base = 1_000_000_000

// trim takes the noughts off that stand last.
func trim(a []uint32) []uint32 {
	for len(a) > 0 && a[len(a)-1] == 0 {
		a = a[:len(a)-1]
	}
	return a
}

// split gives the digits of a number.
func split(n uint64) []uint32 {
	var digits []uint32
	for n > 0 {
		digits = append(digits, uint32(n%base))
		n /= base
	}
	return digits
}

// join gives the number of digits; it must be one that 64 bits have.
func join(digits []uint32) uint64 {
	var n uint64
	for i := len(digits) - 1; i >= 0; i-- {
		n = n*base + uint64(digits[i])
	}
	return n
}

// compare gives -1, 0, 1, as a is less than b, the same, or greater; neither has noughts last.
func compare(a, b []uint32) int {
	if len(a) != len(b) {
		if len(a) < len(b) {
			return -1
		}
		return 1
	}
	for i := len(a) - 1; i >= 0; i-- {
		if a[i] < b[i] {
			return -1
		}
		if a[i] > b[i] {
			return 1
		}
	}
	return 0
}

// sum gives a and b together.
func sum(a, b []uint32) []uint32 {
	if len(a) < len(b) {
		a, b = b, a
	}
	out := make([]uint32, len(a)+1)
	copy(out, a)
	addTo(out, b)
	return out
}

// addTo adds b to a in place, as far as a has digits; and tells whether 1 is left over.
func addTo(a, b []uint32) bool {
	var carry uint32
	for i := range a {
		if i >= len(b) && carry == 0 {
			return false
		}
		digit := a[i] + carry
		if i < len(b) {
			digit += b[i]
		}
		carry = digit / base
		a[i] = digit % base
	}
	return carry != 0
}

// difference gives a less b, which must not be greater.
func difference(a, b []uint32) []uint32 {
	out := slices.Clone(a)
	subtractTimes(out, b, 1)
	return out
}

// subtractTimes takes b, so many times, from a in place; and tells whether a was too small (then one of the digit behind its last is borrowed). b has no more digits than a.
func subtractTimes(a, b []uint32, times uint64) bool {
	var borrow uint64
	for i := range a {
		if i >= len(b) && borrow == 0 {
			return false
		}
		take := borrow
		if i < len(b) {
			take += uint64(b[i]) * times
		}
		borrow = take / base
		less := uint32(take % base)
		if a[i] < less {
			a[i] += base
			borrow++
		}
		a[i] -= less
	}
	return borrow != 0
}

// product gives a times b.
func product(a, b []uint32) []uint32 {
	out := make([]uint32, len(a)+len(b))
	for i, x := range a {
		var carry uint64
		for j, y := range b {
			// At most (base - 1) squared and twice base - 1: below 2^64.
			t := uint64(x)*uint64(y) + uint64(out[i+j]) + carry
			out[i+j] = uint32(t % base)
			carry = t / base
		}
		out[i+len(b)] = uint32(carry)
	}
	return out
}
