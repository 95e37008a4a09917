package score_test

import (
	"math"
	"math/big"
	"math/rand"
	"testing"

	"collator/score"
)

// rising are scores of all kinds, each but the first less than the next one; the first is NaN.
func rising() []float64 {
	list := []float64{math.NaN(), math.Inf(-1)}
	for _, x := range sizes() {
		list = append(list, -x)
	}
	for i, j := 2, len(list)-1; i < j; i, j = i+1, j-1 {
		list[i], list[j] = list[j], list[i]
	}
	list = append(list, math.Copysign(0, -1), 0)
	return append(append(list, sizes()...), math.Inf(1))
}

// sizes are numbers above 0, rising: those at which something turns over, and some between.
func sizes() []float64 {
	return []float64{
		math.SmallestNonzeroFloat64, 1e-323, 0x1p-1023, 0x1p-1022, 1e-300, 1e-224, 1e-223, 1e-200, 1e-100, 0.5, 0.95,
		math.Nextafter(1, 0), 1, math.Nextafter(1, 2), 2, 3.25, 1e16, 1e99,
		math.Nextafter(1e100, 0), 1e100, math.Nextafter(1e100, 1e101), 1e101, 1e200, 1e300, math.MaxFloat64,
	}
}

// nans are the bits of some NaN: quiet ones and others, of both signs.
func nans() []uint64 {
	return []uint64{
		0x7FF8000000000001, 0x7FF8000000000000, 0x7FF0000000000001, 0x7FF7FFFFFFFFFFFF, 0x7FFFFFFFFFFFFFFF,
		0xFFF8000000000001, 0xFFF8000000000000, 0xFFF0000000000001, 0xFFFFFFFFFFFFFFFF,
	}
}

// strangers are numbers that no unknown of a table of n has.
func strangers(n int) []int {
	return []int{math.MinInt, -1 << 62, -2, -1, n, n + 1, 1 << 62, math.MaxInt}
}

// same tells whether two numbers have the same bits, or both are NaN.
func same(x, y float64) bool {
	return math.Float64bits(x) == math.Float64bits(y) || math.IsNaN(x) && math.IsNaN(y)
}

// tableOf gives a table with these scores.
func tableOf(t *testing.T, decay float64, scores ...float64) *score.Table {
	t.Helper()
	table := score.New(len(scores), decay)
	for v, x := range scores {
		if !table.Set(v, x) {
			t.Fatalf("there is no %d", v)
		}
	}
	return table
}

// expect holds a table against what it is to have.
func expect(t *testing.T, what string, table *score.Table, step float64, scores ...float64) {
	t.Helper()
	if got := table.Step(); !same(got, step) {
		t.Errorf("%s: the step %v, not %v", what, got, step)
	}
	for v, x := range scores {
		if got := table.Score(v); !same(got, x) {
			t.Errorf("%s: the score of %d is %v, not %v", what, v, got, x)
		}
	}
}

// ledger is a table reckoned by exact fractions, each rounded once.
type ledger struct {
	scores      []float64
	step, decay float64
}

func rounded(x *big.Rat) float64 {
	f, _ := x.Float64()
	if f == 0 {
		return 0
	}
	return f
}

func exact(x float64) *big.Rat { return new(big.Rat).SetFloat64(x) }

func plus(x, y float64) float64 {
	switch {
	case math.IsInf(x, 0):
		// What is -Inf and +Inf together is no number, in the place of which stands -Inf.
		return x
	case math.IsInf(y, 0):
		return y
	}
	return rounded(new(big.Rat).Add(exact(x), exact(y)))
}

func lowered(x float64) float64 {
	if math.IsInf(x, 0) {
		return x
	}
	return rounded(new(big.Rat).Mul(exact(x), exact(1e-100)))
}

func (l *ledger) lower() {
	for v, x := range l.scores {
		l.scores[v] = lowered(x)
	}
	l.step = lowered(l.step)
}

func (l *ledger) bump(v int) {
	l.scores[v] = plus(l.scores[v], l.step)
	if l.scores[v] > 1e100 && l.scores[v] <= math.MaxFloat64 {
		l.lower()
	}
}

func (l *ledger) fade() {
	if !math.IsInf(l.step, 0) {
		l.step = rounded(new(big.Rat).Quo(exact(l.step), exact(l.decay)))
	}
	if l.step > 1e100 {
		l.lower()
	}
}

func (l *ledger) set(v int, x float64) {
	switch {
	case math.IsNaN(x):
		x = math.Inf(-1)
	case x == 0:
		x = 0
	}
	l.scores[v] = x
}

// random gives a number of any kind.
func random(r *rand.Rand) float64 {
	switch r.Intn(3) {
	case 0:
		list := rising()
		return list[r.Intn(len(list))]
	case 1:
		return math.Float64frombits(r.Uint64())
	}
	return r.NormFloat64()
}
