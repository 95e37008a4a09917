package frac

import (
	"collator/api"
	"collator/whole"
)

// lay gives over through under, which isn't 0 and has nothing in common with over; it keeps both.
func lay(over, under api.Int) api.Frac {
	if under.Neg {
		over, under = whole.Neg(over), whole.Neg(under)
	}
	if isOne(under) {
		return api.Frac{Over: over}
	}
	return api.Frac{Over: over, Under: under}
}

// under gives the number under a fraction's line, which may stand unwritten.
func under(x api.Frac) api.Int {
	if isInteger(x) {
		return whole.Of(1)
	}
	return x.Under
}

// isInteger tells whether nothing is written under a fraction's line.
func isInteger(x api.Frac) bool { return len(x.Under.Digits) == 0 }

// isOne tells whether a number is 1.
func isOne(x api.Int) bool { return !x.Neg && len(x.Digits) == 1 && x.Digits[0] == 1 }

// isNought tells whether a number is 0.
func isNought(x api.Int) bool { return whole.Cmp(x, api.Int{}) == 0 }

// without gives a number through one that divides it.
func without(x, factor api.Int) api.Int {
	if isOne(factor) {
		return fresh(x)
	}
	often, _ := whole.Div(x, factor)
	return often
}

// fresh gives a number in new memory.
func fresh(x api.Int) api.Int { return whole.Add(x, api.Int{}) }
