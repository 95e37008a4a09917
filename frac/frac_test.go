package frac_test

import (
	"math/big"
	"math/rand"
	"slices"
	"testing"

	"collator/api"
	"collator/frac"
	"collator/whole"
)

// P1: no call panics, whatever fractions come.
func TestNothingPanics(t *testing.T) {
	list := wrong()
	for _, n := range edges() {
		list = append(list, fracOf(n))
	}
	for _, x := range list {
		for _, call := range unary() {
			call(x)
		}
		for _, y := range list {
			for _, call := range binary() {
				call(x, y)
			}
		}
	}
}

// P2, and rules 4 and 7: an answer hangs on the arguments alone, which stay as they are; and it shares no memory.
func TestAnswersHangOnArgumentsAlone(t *testing.T) {
	list := wrong()
	for _, n := range edges() {
		list = append(list, fracOf(n))
	}
	for _, x := range list {
		for name, call := range unary() {
			checkCall(t, name, func(args []api.Frac) []api.Int { return call(args[0]) }, x)
		}
		for _, y := range list {
			for name, call := range binary() {
				checkCall(t, name, func(args []api.Frac) []api.Int { return call(args[0], args[1]) }, x, y)
			}
		}
	}
}

func checkCall(t *testing.T, name string, call func([]api.Frac) []api.Int, args ...api.Frac) {
	t.Helper()
	elder := make([]api.Frac, len(args))
	for i, x := range args {
		elder[i] = clone(x)
	}
	first, second := call(args), call(args)
	if !slices.EqualFunc(first, second, sameInt) {
		t.Fatalf("%s of %v: %v, then %v", name, args, first, second)
	}
	if !slices.EqualFunc(args, elder, same) {
		t.Fatalf("%s of %v: these are %v behind it", name, elder, args)
	}
	if !apart(slices.Concat(first, second), args) {
		t.Fatalf("%s of %v shares memory", name, args)
	}
}

func TestOf(t *testing.T) {
	for _, n := range parts() {
		expect(t, "Of", frac.Of(intOf(n)), new(big.Rat).SetInt(n))
	}
	if x := frac.Of(api.Int{Digits: []uint32{}}); !same(x, api.Frac{}) {
		t.Error(x)
	}
}

func TestMake(t *testing.T) {
	for _, x := range parts() {
		for _, y := range parts() {
			want := new(big.Rat)
			if y.Sign() != 0 {
				want.SetFrac(x, y)
			}
			if got := frac.Make(intOf(x), intOf(y)); !same(got, fracOf(want)) {
				t.Errorf("Make of %v, %v: %v, not %v", x, y, got, want)
			}
		}
	}
	minus := api.Frac{Over: api.Int{Neg: true, Digits: []uint32{3}}, Under: api.Int{Digits: []uint32{2}}}
	if x := frac.Make(whole.Of(6), whole.Of(-4)); !same(x, minus) {
		t.Error(x)
	}
	for _, n := range []int64{0, 5, -5} {
		if x := frac.Make(whole.Of(n), api.Int{Digits: []uint32{}}); !same(x, api.Frac{}) {
			t.Errorf("Make of %d, 0: %v", n, x)
		}
	}
}

// The chapter leaves free what comes of an integer that may not be; README.md says that it counts as 0.
func TestWrongIntegersCountAsNought(t *testing.T) {
	for _, x := range wrongInts() {
		for _, got := range []api.Frac{
			frac.Of(x), frac.Make(x, whole.Of(5)), frac.Make(x, whole.Of(-1)), frac.Make(whole.Of(5), x), frac.Make(x, x),
		} {
			if !same(got, api.Frac{}) {
				t.Errorf("of %v comes %v", x, got)
			}
		}
	}
}

func TestRight(t *testing.T) {
	for _, x := range wrong() {
		if frac.Right(x) {
			t.Errorf("%v may be", x)
		}
	}
	for _, n := range edges() {
		if x := fracOf(n); !frac.Right(x) {
			t.Errorf("%v may not be", x)
		}
	}
	for _, x := range []api.Frac{
		{}, {Over: api.Int{Digits: []uint32{}}, Under: api.Int{Digits: []uint32{}}},
		{Over: whole.Of(1), Under: whole.Of(2)}, {Over: whole.Of(-9), Under: whole.Of(10)}, {Over: whole.Of(-12)},
	} {
		if !frac.Right(x) {
			t.Errorf("%v may not be", x)
		}
	}
}

func TestAddMulDivNeg(t *testing.T) {
	list := edges()
	for _, x := range list {
		expect(t, "Neg", frac.Neg(fracOf(x)), new(big.Rat).Neg(x), x)
		for _, y := range list {
			checkBoth(t, x, y)
		}
	}
}

func checkBoth(t *testing.T, x, y *big.Rat) {
	t.Helper()
	expect(t, "Add", frac.Add(fracOf(x), fracOf(y)), new(big.Rat).Add(x, y), x, y)
	expect(t, "Mul", frac.Mul(fracOf(x), fracOf(y)), new(big.Rat).Mul(x, y), x, y)
	want := new(big.Rat)
	if y.Sign() != 0 {
		want.Quo(x, y)
	}
	expect(t, "Div", frac.Div(fracOf(x), fracOf(y)), want, x, y)
	if got := frac.Cmp(fracOf(x), fracOf(y)); got != x.Cmp(y) {
		t.Errorf("Cmp of %v, %v: %d", x, y, got)
	}
}

// All small ones: there parts have much in common, and sums are often less than what they come of.
func TestSmallFractions(t *testing.T) {
	var list []*big.Rat
	for under := int64(1); under <= 12; under++ {
		for over := int64(-12); over <= 12; over++ {
			list = append(list, big.NewRat(over, under))
		}
	}
	for _, x := range list {
		for _, y := range list {
			checkBoth(t, x, y)
		}
	}
}

// Those that are nearly the other one, the other sign's, or through the other one: much is taken out there.
func TestFractionsNextToOthers(t *testing.T) {
	r := rand.New(rand.NewSource(2))
	for range 500 {
		x, little := random(r, 1+r.Intn(4)), random(r, 1+r.Intn(4))
		checkBoth(t, x, x)
		checkBoth(t, x, new(big.Rat).Neg(x))
		checkBoth(t, x, new(big.Rat).Add(x, little))
		checkBoth(t, x, new(big.Rat).Sub(little, x))
		checkBoth(t, x, new(big.Rat).Mul(x, little))
		if x.Sign() != 0 {
			checkBoth(t, x, new(big.Rat).Inv(x))
			checkBoth(t, x, new(big.Rat).Quo(little, x))
		}
	}
}

func TestGreatFractions(t *testing.T) {
	r := rand.New(rand.NewSource(3))
	for range 5 {
		checkBoth(t, random(r, 60), random(r, 60))
	}
}

func TestCmp(t *testing.T) {
	list := edges()
	for i, x := range list {
		for j, y := range list {
			want := 0
			if i < j {
				want = -1
			}
			if i > j {
				want = 1
			}
			if got := frac.Cmp(fracOf(x), fracOf(y)); got != want {
				t.Errorf("Cmp of %v, %v: %d", x, y, got)
			}
		}
	}
	empty := api.Int{Digits: []uint32{}}
	if frac.Cmp(api.Frac{}, api.Frac{Over: empty, Under: empty}) != 0 {
		t.Error("nil lists and those without elements are apart")
	}
}

func checkFloor(t *testing.T, x *big.Rat) {
	t.Helper()
	floor, whether := frac.Floor(fracOf(x))
	// What is under the line is above 0, so that this one's way is the greatest that isn't greater.
	want := new(big.Int).Div(x.Num(), x.Denom())
	if !sameInt(floor, intOf(want)) || whether != x.IsInt() {
		t.Errorf("Floor of %v: %v, %v", x, floor, whether)
	}
}

func TestFloor(t *testing.T) {
	for _, x := range edges() {
		checkFloor(t, x)
	}
	for over := int64(-40); over <= 40; over++ {
		for under := int64(1); under < 10; under++ {
			checkFloor(t, big.NewRat(over, under))
		}
	}
	if floor, whether := frac.Floor(frac.Make(whole.Of(6), whole.Of(-4))); whole.Text(floor) != "-2" || whether {
		t.Error(floor, whether)
	}
	if floor, whether := frac.Floor(api.Frac{}); !sameInt(floor, api.Int{}) || !whether {
		t.Error(floor, whether)
	}
	if floor, whether := frac.Floor(frac.Make(whole.Of(1), whole.Of(3))); !sameInt(floor, api.Int{}) || whether {
		t.Error(floor, whether)
	}
}

func TestText(t *testing.T) {
	for _, x := range edges() {
		if got := frac.Text(fracOf(x)); got != x.RatString() {
			t.Errorf("Text of %v: %s", x, got)
		}
	}
	for want, x := range map[string]api.Frac{
		"0":             {},
		"-3/2":          frac.Make(whole.Of(6), whole.Of(-4)),
		"1000000000":    {Over: whole.Of(1_000_000_000), Under: api.Int{Digits: []uint32{}}},
		"-1/4000000000": frac.Make(whole.Of(-1), whole.Of(4_000_000_000)),
	} {
		if got := frac.Text(x); got != want {
			t.Errorf("%s, not %s", got, want)
		}
	}
}
