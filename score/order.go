package score

import "math"

// nan is the bits of each NaN.
const nan uint64 = 0x7FF8000000000001

// Less tells whether a score is less than another one: in an order of all that there are.
func Less(x, y float64) bool {
	if math.IsNaN(x) {
		return !math.IsNaN(y)
	}
	// No number is less than NaN by Go's own order, and only the two noughts are the same with unlike signs.
	return x < y || x == y && math.Signbit(x) && !math.Signbit(y)
}

// Bits gives a score's 64 bits.
func Bits(x float64) uint64 {
	if math.IsNaN(x) {
		return nan
	}
	return math.Float64bits(x)
}

// Of gives the score of 64 bits.
func Of(bits uint64) float64 { return math.Float64frombits(bits) }
