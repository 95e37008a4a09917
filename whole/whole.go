// Package whole is layer 1: see shared/doc/01-whole.md.
package whole

import (
	"slices"

	"collator/api"
)

// Of gives the number of a number.
func Of(n int64) api.Int {
	size := uint64(n)
	if n < 0 {
		// Without a sign it wraps round, so that even the least int64 has its size.
		size = -size
	}
	return signed(n < 0, split(size))
}

// Right tells whether an integer may be.
func Right(x api.Int) bool {
	for _, digit := range x.Digits {
		if digit >= base {
			return false
		}
	}
	if len(x.Digits) == 0 {
		return !x.Neg
	}
	return x.Digits[len(x.Digits)-1] != 0
}

// Cmp tells whether x is less than y (-1), is y (0), or is greater (1).
func Cmp(x, y api.Int) int {
	x, y = clean(x), clean(y)
	switch {
	case x.Neg && y.Neg:
		return compare(y.Digits, x.Digits)
	case x.Neg:
		return -1
	case y.Neg:
		return 1
	}
	return compare(x.Digits, y.Digits)
}

// Add gives a sum.
func Add(x, y api.Int) api.Int {
	x, y = clean(x), clean(y)
	if x.Neg == y.Neg {
		return signed(x.Neg, sum(x.Digits, y.Digits))
	}
	if compare(x.Digits, y.Digits) < 0 {
		x, y = y, x
	}
	return signed(x.Neg, difference(x.Digits, y.Digits))
}

// Neg gives a number with the other sign.
func Neg(x api.Int) api.Int {
	x = clean(x)
	return signed(!x.Neg, slices.Clone(x.Digits))
}

// Mul gives a product.
func Mul(x, y api.Int) api.Int {
	x, y = clean(x), clean(y)
	return signed(x.Neg != y.Neg, product(x.Digits, y.Digits))
}

// Div gives how often y is in x, and what is left, which isn't below 0.
func Div(x, y api.Int) (api.Int, api.Int) {
	x, y = clean(x), clean(y)
	if len(y.Digits) == 0 {
		return api.Int{}, api.Int{}
	}
	often, rest := divide(x.Digits, y.Digits)
	if x.Neg && len(rest) > 0 {
		// What is left would be below 0: y goes in once more.
		often = sum(often, []uint32{1})
		rest = difference(y.Digits, rest)
	}
	return signed(x.Neg != y.Neg, often), signed(false, rest)
}

// Gcd gives the greatest number that divides both.
func Gcd(x, y api.Int) api.Int {
	a, b := clean(x).Digits, clean(y).Digits
	for len(a) > 2 || len(b) > 2 {
		if len(b) == 0 {
			return signed(false, slices.Clone(a))
		}
		_, rest := divide(a, b)
		a, b = b, rest
	}
	// Both are below 10^18 now: machine numbers are much faster.
	m, n := join(a), join(b)
	for n != 0 {
		m, n = n, m%n
	}
	return signed(false, split(m))
}

// Small gives a number that an int has.
func Small(x api.Int) (int, bool) {
	x = clean(x)
	if len(x.Digits) > 3 || len(x.Digits) == 3 && x.Digits[2] > 4 {
		// 5 * 10^18 is above 2^62 already, and greater ones may not be joined.
		return 0, false
	}
	size := join(x.Digits)
	switch {
	case size > 1<<62:
		return 0, false
	case x.Neg:
		return -int(size), true
	}
	return int(size), true
}

// clean lets an integer that may not be count as 0, so that no call hangs on what it holds.
func clean(x api.Int) api.Int {
	if !Right(x) {
		return api.Int{}
	}
	return x
}

// signed gives the integer of some digits, which it keeps: they must be new memory.
func signed(below bool, digits []uint32) api.Int {
	digits = trim(digits)
	if len(digits) == 0 {
		return api.Int{}
	}
	return api.Int{Neg: below, Digits: digits}
}
