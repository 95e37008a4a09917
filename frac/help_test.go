package frac_test

import (
	"math/big"
	"math/rand"
	"slices"
	"testing"

	"collator/api"
	"collator/frac"
	"collator/whole"
)

// parts are numbers of which fractions are made: those at which a digit turns over, and some with much in common.
func parts() []*big.Int {
	list := []*big.Int{big.NewInt(0)}
	for _, n := range []int64{1, 2, 3, 4, 6, 12, 35, 999_999_999, 1_000_000_000, 1_000_000_001, 4_000_000_000} {
		list = append(list, big.NewInt(n), big.NewInt(-n))
	}
	for _, text := range []string{"1000000000000000000", "123456789012345678901234567890", "6000000000000000000000000000000000000"} {
		n, _ := new(big.Int).SetString(text, 10)
		list = append(list, n, new(big.Int).Neg(n))
	}
	return list
}

// edges are the fractions of the parts, and some others, each once.
func edges() []*big.Rat {
	var list []*big.Rat
	for _, over := range parts() {
		for _, under := range []int64{1, 2, 3, 6, 35, 999_999_999, 1_000_000_000, 2_000_000_000} {
			list = append(list, new(big.Rat).SetFrac(over, big.NewInt(under)))
		}
	}
	r := rand.New(rand.NewSource(1))
	for length := 1; length < 6; length++ {
		for range 3 {
			list = append(list, random(r, length))
		}
	}
	slices.SortFunc(list, (*big.Rat).Cmp)
	return slices.CompactFunc(list, func(x, y *big.Rat) bool { return x.Cmp(y) == 0 })
}

// random gives a fraction, each part of which has 64 bits at most, so many times.
func random(r *rand.Rand, length int) *big.Rat {
	bound := new(big.Int).Lsh(big.NewInt(1), uint(64*length))
	over, under := new(big.Int).Rand(r, bound), new(big.Int).Rand(r, bound)
	if r.Intn(2) == 0 {
		over.Neg(over)
	}
	return new(big.Rat).SetFrac(over, under.Add(under, big.NewInt(1)))
}

// intOf gives the integer of a number, as its chapter lays it.
func intOf(n *big.Int) api.Int {
	x := api.Int{Neg: n.Sign() < 0}
	left, digit := new(big.Int).Abs(n), new(big.Int)
	for left.Sign() > 0 {
		left.QuoRem(left, big.NewInt(1_000_000_000), digit)
		x.Digits = append(x.Digits, uint32(digit.Int64()))
	}
	return x
}

// fracOf gives the fraction of a number, as the chapter lays it.
func fracOf(n *big.Rat) api.Frac {
	if n.IsInt() {
		return api.Frac{Over: intOf(n.Num())}
	}
	return api.Frac{Over: intOf(n.Num()), Under: intOf(n.Denom())}
}

// sameInt tells whether two integers are laid alike.
func sameInt(x, y api.Int) bool { return x.Neg == y.Neg && slices.Equal(x.Digits, y.Digits) }

// same tells whether two fractions are laid alike.
func same(x, y api.Frac) bool { return sameInt(x.Over, y.Over) && sameInt(x.Under, y.Under) }

// expect tells where an answer isn't laid as the number is.
func expect(t *testing.T, what string, got api.Frac, want *big.Rat, of ...*big.Rat) {
	t.Helper()
	if !same(got, fracOf(want)) {
		t.Errorf("%s of %v: %v, not %v", what, of, got, want)
	}
}

// wrongInts are integers that may not be.
func wrongInts() []api.Int {
	return []api.Int{
		{Neg: true},
		{Digits: []uint32{0}},
		{Neg: true, Digits: []uint32{0, 0}},
		{Digits: []uint32{1, 0}},
		{Digits: []uint32{1_000_000_000}},
		{Neg: true, Digits: []uint32{1<<32 - 1, 1<<32 - 1, 1<<32 - 1}},
		{Digits: []uint32{5, 1 << 31, 7}},
	}
}

// wrong are fractions that may not be: a part is none, or the two aren't in the one form.
func wrong() []api.Frac {
	of := whole.Of
	list := []api.Frac{
		{Over: of(0), Under: of(1)}, {Over: of(7), Under: of(1)}, {Over: of(-7), Under: of(1)},
		{Over: of(0), Under: of(2)}, {Over: of(0), Under: of(-1)}, {Over: of(3), Under: of(-1)},
		{Over: of(3), Under: of(-2)}, {Over: of(-3), Under: of(-2)},
		{Over: of(2), Under: of(2)}, {Over: of(2), Under: of(4)}, {Over: of(-4), Under: of(2)}, {Over: of(6), Under: of(9)},
		{Over: of(3_000_000_000), Under: of(7_000_000_000)},
		{Over: of(1 << 62), Under: of(6)},
		{Over: of(5), Under: api.Int{Neg: true, Digits: []uint32{}}},
	}
	for _, x := range wrongInts() {
		list = append(list, api.Frac{Over: x}, api.Frac{Under: x}, api.Frac{Over: x, Under: x})
		list = append(list, api.Frac{Over: of(1), Under: x}, api.Frac{Over: of(5), Under: x}, api.Frac{Over: x, Under: of(5)}, api.Frac{Over: x, Under: of(-1)})
	}
	return list
}

// unary are all calls of one fraction.
func unary() map[string]func(api.Frac) []api.Int {
	return map[string]func(api.Frac) []api.Int{
		"Neg":   func(x api.Frac) []api.Int { return both(frac.Neg(x)) },
		"Right": func(x api.Frac) []api.Int { return truth(frac.Right(x)) },
		"Floor": func(x api.Frac) []api.Int {
			floor, whether := frac.Floor(x)
			return append(truth(whether), floor)
		},
		"Text": func(x api.Frac) []api.Int { return letters(frac.Text(x)) },
		"Of":   func(x api.Frac) []api.Int { return both(frac.Of(x.Over)) },
		"Make": func(x api.Frac) []api.Int { return both(frac.Make(x.Over, x.Under)) },
	}
}

// binary are all calls of two fractions.
func binary() map[string]func(x, y api.Frac) []api.Int {
	return map[string]func(x, y api.Frac) []api.Int{
		"Add":  func(x, y api.Frac) []api.Int { return both(frac.Add(x, y)) },
		"Mul":  func(x, y api.Frac) []api.Int { return both(frac.Mul(x, y)) },
		"Div":  func(x, y api.Frac) []api.Int { return both(frac.Div(x, y)) },
		"Make": func(x, y api.Frac) []api.Int { return both(frac.Make(x.Over, y.Over)) },
		"Cmp":  func(x, y api.Frac) []api.Int { return []api.Int{whole.Of(int64(frac.Cmp(x, y)))} },
	}
}

// both gives a fraction's parts.
func both(x api.Frac) []api.Int { return []api.Int{x.Over, x.Under} }

// truth gives a number for what is true, and none else.
func truth(is bool) []api.Int {
	if is {
		return []api.Int{whole.Of(1)}
	}
	return nil
}

// letters gives the numbers of a text's bytes.
func letters(s string) []api.Int {
	var list []api.Int
	for _, c := range []byte(s) {
		list = append(list, whole.Of(int64(c)))
	}
	return list
}

// clone gives a fraction in other memory.
func clone(x api.Frac) api.Frac {
	return api.Frac{
		Over:  api.Int{Neg: x.Over.Neg, Digits: slices.Clone(x.Over.Digits)},
		Under: api.Int{Neg: x.Under.Neg, Digits: slices.Clone(x.Under.Digits)},
	}
}

// apart tells whether no answer shares memory with another one, or with an argument, even behind their ends.
func apart(answers []api.Int, args []api.Frac) bool {
	var others []api.Int
	for _, x := range args {
		others = append(others, x.Over, x.Under)
	}
	for _, x := range answers {
		for _, y := range others {
			if share(x.Digits[:cap(x.Digits)], y.Digits[:cap(y.Digits)]) {
				return false
			}
		}
		others = append(others, x)
	}
	return true
}

func share(a, b []uint32) bool {
	for i := range a {
		for j := range b {
			if &a[i] == &b[j] {
				return true
			}
		}
	}
	return false
}
