package whole

import "slices"

// divide gives how often b, which isn't 0, is in a, and what is left, without noughts last.
func divide(a, b []uint32) (often, rest []uint32) {
	if compare(a, b) < 0 {
		return nil, slices.Clone(a)
	}
	if len(b) == 1 {
		quotient, left := divideByDigit(a, b[0])
		return quotient, trim([]uint32{left})
	}
	// Both are scaled so that b's last digit is half the base at least: guesses are 2 too great at most then.
	scale := base / (b[len(b)-1] + 1)
	rest = product([]uint32{scale}, a)
	by := trim(product([]uint32{scale}, b))
	often = make([]uint32, len(a)-len(b)+1)
	for i := len(often) - 1; i >= 0; i-- {
		often[i] = divideStep(rest[i:i+len(by)+1], by)
	}
	rest, _ = divideByDigit(rest[:len(by)], scale)
	return often, trim(rest)
}

// divideStep gives how often by is in part, and takes that from part, which has one digit more and is less than by times the base.
func divideStep(part, by []uint32) uint32 {
	n := len(by)
	top := uint64(part[n])*base + uint64(part[n-1])
	guess := min(top/uint64(by[n-1]), base-1)
	if subtractTimes(part, by, guess) {
		guess--
		for !addTo(part, by) {
			guess--
		}
	}
	return uint32(guess)
}

// divideByDigit gives how often a digit, which isn't 0, is in a, and what is left.
func divideByDigit(a []uint32, digit uint32) ([]uint32, uint32) {
	often := make([]uint32, len(a))
	var rest uint64
	for i := len(a) - 1; i >= 0; i-- {
		rest = rest*base + uint64(a[i])
		often[i] = uint32(rest / uint64(digit))
		rest %= uint64(digit)
	}
	return often, uint32(rest)
}
