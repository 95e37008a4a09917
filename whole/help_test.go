package whole_test

import (
	"math/big"
	"math/rand"
	"slices"
	"testing"

	"collator/api"
	"collator/whole"
)

// wrong are integers that may not be.
func wrong() []api.Int {
	return []api.Int{
		{Neg: true},
		{Neg: true, Digits: []uint32{}},
		{Digits: []uint32{0}},
		{Neg: true, Digits: []uint32{0}},
		{Digits: []uint32{1, 0}},
		{Digits: []uint32{0, 0, 0}},
		{Digits: []uint32{1_000_000_000}},
		{Digits: []uint32{1_000_000_000, 1}},
		{Digits: []uint32{5, 1 << 31, 7}},
		{Digits: []uint32{1<<32 - 1, 1<<32 - 1, 1<<32 - 1, 1<<32 - 1}},
		{Neg: true, Digits: []uint32{1<<32 - 1, 0}},
	}
}

// edges are numbers at which a digit, a machine number or a guess of a division turns over, and some between, each with both signs.
func edges() []*big.Int {
	r := rand.New(rand.NewSource(1))
	list := []*big.Int{big.NewInt(0)}
	add := func(x *big.Int) {
		list = append(list, x, new(big.Int).Neg(x))
	}
	for _, n := range []int64{1, 2, 3, 7, 10, 84, 30, 499_999_999, 500_000_000, 999_999_999, 1_000_000_000, 1_000_000_001} {
		add(big.NewInt(n))
	}
	for _, bits := range []uint{31, 32, 62, 63, 64, 90, 128} {
		power := new(big.Int).Lsh(big.NewInt(1), bits)
		add(power)
		add(new(big.Int).Sub(power, big.NewInt(1)))
		add(new(big.Int).Add(power, big.NewInt(1)))
	}
	for _, digits := range [][]uint32{
		{0, 1}, {0, 0, 1}, {0, 0, 0, 1}, {0, 0, 0, 0, 1},
		{999_999_999, 999_999_999}, {999_999_999, 999_999_999, 999_999_999, 999_999_999},
		{0, 999_999_999}, {999_999_999, 0, 1}, {0, 0, 500_000_000}, {1, 0, 500_000_000},
		{999_999_999, 499_999_999}, {0, 0, 499_999_999, 500_000_000}, {1, 0, 1}, {0, 0, 0, 0, 0, 0, 0, 2},
	} {
		add(bigOf(api.Int{Digits: digits}))
	}
	for length := 1; length < 12; length++ {
		for range 3 {
			add(bigOf(random(r, length)))
		}
	}
	return list
}

// random gives an integer of so many digits, many of which are nearly 0 or nearly the base.
func random(r *rand.Rand, length int) api.Int {
	x := api.Int{Neg: r.Intn(2) == 0, Digits: make([]uint32, length)}
	for i := range x.Digits {
		switch r.Intn(4) {
		case 0:
			x.Digits[i] = uint32(r.Intn(3))
		case 1:
			x.Digits[i] = 999_999_999 - uint32(r.Intn(3))
		default:
			x.Digits[i] = uint32(r.Intn(1_000_000_000))
		}
	}
	x.Digits[length-1] = max(1, x.Digits[length-1])
	return x
}

// bigOf gives the number that the digits are, as another one reckons.
func bigOf(x api.Int) *big.Int {
	n := new(big.Int)
	for _, digit := range slices.Backward(x.Digits) {
		n.Mul(n, big.NewInt(1_000_000_000))
		n.Add(n, big.NewInt(int64(digit)))
	}
	if x.Neg {
		n.Neg(n)
	}
	return n
}

// intOf gives the integer of a number, as the chapter lays it.
func intOf(n *big.Int) api.Int {
	x := api.Int{Neg: n.Sign() < 0}
	left, digit := new(big.Int).Abs(n), new(big.Int)
	for left.Sign() > 0 {
		left.QuoRem(left, big.NewInt(1_000_000_000), digit)
		x.Digits = append(x.Digits, uint32(digit.Int64()))
	}
	return x
}

// same tells whether two integers are laid alike.
func same(x, y api.Int) bool { return x.Neg == y.Neg && slices.Equal(x.Digits, y.Digits) }

// clone gives an integer in other memory.
func clone(x api.Int) api.Int { return api.Int{Neg: x.Neg, Digits: slices.Clone(x.Digits)} }

// expect tells where an answer isn't laid as the number is.
func expect(t *testing.T, what string, got api.Int, want *big.Int, of ...*big.Int) {
	t.Helper()
	if !same(got, intOf(want)) {
		t.Errorf("%s of %v: %v, not %v", what, of, got, want)
	}
}

// apart tells whether no answer shares memory with another one, or with an argument, even behind their ends.
func apart(answers, args []api.Int) bool {
	for i, x := range answers {
		for _, y := range slices.Concat(answers[:i], args) {
			if share(x.Digits[:cap(x.Digits)], y.Digits[:cap(y.Digits)]) {
				return false
			}
		}
	}
	return true
}

func share(a, b []uint32) bool {
	for i := range a {
		for j := range b {
			if &a[i] == &b[j] {
				return true
			}
		}
	}
	return false
}

// unary are all calls of one integer that answer one.
func unary() map[string]func(api.Int) []api.Int {
	return map[string]func(api.Int) []api.Int{
		"Neg": func(x api.Int) []api.Int { return []api.Int{whole.Neg(x)} },
		"Text, Parse": func(x api.Int) []api.Int {
			y, _ := whole.Parse(whole.Text(x))
			return []api.Int{y}
		},
		"Small": func(x api.Int) []api.Int {
			n, ok := whole.Small(x)
			if !ok {
				return nil
			}
			return []api.Int{whole.Of(int64(n))}
		},
		"Right": func(x api.Int) []api.Int {
			if whole.Right(x) {
				return []api.Int{whole.Of(1)}
			}
			return nil
		},
	}
}

// binary are all calls of two integers.
func binary() map[string]func(x, y api.Int) []api.Int {
	return map[string]func(x, y api.Int) []api.Int{
		"Cmp": func(x, y api.Int) []api.Int { return []api.Int{whole.Of(int64(whole.Cmp(x, y)))} },
		"Add": func(x, y api.Int) []api.Int { return []api.Int{whole.Add(x, y)} },
		"Mul": func(x, y api.Int) []api.Int { return []api.Int{whole.Mul(x, y)} },
		"Gcd": func(x, y api.Int) []api.Int { return []api.Int{whole.Gcd(x, y)} },
		"Div": func(x, y api.Int) []api.Int {
			q, r := whole.Div(x, y)
			return []api.Int{q, r}
		},
	}
}
