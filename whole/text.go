package whole

import (
	"strconv"
	"strings"

	"collator/api"
)

const (
	// width is how many decimal digits a digit has.
	width = 9
	// most is how many decimal digits a text may have.
	most = 10_000
)

// Text gives a number in decimal digits.
func Text(x api.Int) string {
	x = clean(x)
	if len(x.Digits) == 0 {
		return "0"
	}
	var text strings.Builder
	if x.Neg {
		text.WriteByte('-')
	}
	last := len(x.Digits) - 1
	text.WriteString(decimal(x.Digits[last]))
	for i := last - 1; i >= 0; i-- {
		digits := decimal(x.Digits[i])
		text.WriteString("000000000"[len(digits):])
		text.WriteString(digits)
	}
	return text.String()
}

// decimal gives a digit's decimal digits.
func decimal(digit uint32) string { return strconv.FormatUint(uint64(digit), 10) }

// Parse gives the number of decimal digits.
func Parse(s string) (api.Int, bool) {
	text, below := strings.CutPrefix(s, "-")
	if !isDecimal(text) {
		return api.Int{}, false
	}
	digits := make([]uint32, 0, len(text)/width+1)
	for end := len(text); end > 0; end -= width {
		digits = append(digits, number(text[max(0, end-width):end]))
	}
	return signed(below, digits), true
}

// isDecimal tells whether a text is decimal digits alone, as many as there may be.
func isDecimal(s string) bool {
	if len(s) < 1 || len(s) > most {
		return false
	}
	for i := range len(s) {
		if s[i] < '0' || s[i] > '9' {
			return false
		}
	}
	return true
}

// number gives the number of up to 9 decimal digits.
func number(s string) uint32 {
	var n uint32
	for i := range len(s) {
		n = n*10 + uint32(s[i]-'0')
	}
	return n
}
