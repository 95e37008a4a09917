package score_test

import (
	"math"
	"math/rand"
	"testing"

	"collator/score"
)

// P3.3: Less, of each two of all kinds.
func TestLess(t *testing.T) {
	list := rising()
	for i, x := range list {
		for j, y := range list {
			if got := score.Less(x, y); got != (i < j) {
				t.Errorf("Less of %v, %v: %v", x, y, got)
			}
		}
	}
	if !score.Less(math.NaN(), math.Inf(-1)) {
		t.Error("NaN isn't less than -Inf")
	}
}

// P3.3: no NaN is less than another one, and each less than all others.
func TestLessOfNaN(t *testing.T) {
	for _, bits := range nans() {
		x := math.Float64frombits(bits)
		for _, other := range nans() {
			if score.Less(x, math.Float64frombits(other)) {
				t.Errorf("%x is less than %x", bits, other)
			}
		}
		for _, y := range rising()[1:] {
			if !score.Less(x, y) || score.Less(y, x) {
				t.Errorf("%x and %v", bits, y)
			}
		}
	}
}

// P3.3: Less, against the bits as integers, of which those below 0 run the other way.
func TestLessByBits(t *testing.T) {
	place := func(x float64) int64 {
		if math.IsNaN(x) {
			return math.MinInt64
		}
		bits := math.Float64bits(x)
		if bits>>63 == 1 {
			return -1 - int64(bits&^(1<<63))
		}
		return int64(bits)
	}
	r := rand.New(rand.NewSource(2))
	for range 20000 {
		x, y := random(r), random(r)
		if got, want := score.Less(x, y), place(x) < place(y); got != want {
			t.Fatalf("Less of %v, %v: %v", x, y, got)
		}
	}
}

// P3.3: Bits and Of.
func TestBits(t *testing.T) {
	for _, c := range []struct {
		x    float64
		bits uint64
	}{
		{0, 0}, {math.Copysign(0, -1), 0x8000000000000000}, {math.SmallestNonzeroFloat64, 1}, {0x1p-1022, 0x0010000000000000},
		{1, 0x3FF0000000000000}, {-2, 0xC000000000000000}, {0.1, 0x3FB999999999999A}, {math.MaxFloat64, 0x7FEFFFFFFFFFFFFF},
		{math.Inf(1), 0x7FF0000000000000}, {math.Inf(-1), 0xFFF0000000000000}, {math.NaN(), 0x7FF8000000000001},
	} {
		if got := score.Bits(c.x); got != c.bits {
			t.Errorf("Bits of %v: %x", c.x, got)
		}
		if got := score.Of(c.bits); !same(got, c.x) {
			t.Errorf("Of %x: %v", c.bits, got)
		}
	}
	for _, bits := range nans() {
		if x := score.Of(bits); !math.IsNaN(x) || score.Bits(x) != 0x7FF8000000000001 {
			t.Errorf("Of %x: %v, with the bits %x", bits, x, score.Bits(x))
		}
	}
	r := rand.New(rand.NewSource(3))
	for range 20000 {
		bits := r.Uint64()
		if x := score.Of(bits); !math.IsNaN(x) && score.Bits(x) != bits {
			t.Fatalf("Of %x: %v, with the bits %x", bits, x, score.Bits(x))
		}
	}
}
