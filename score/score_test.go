package score_test

import (
	"math"
	"math/rand"
	"slices"
	"testing"

	"collator/score"
)

// P1: no call panics, whatever numbers come.
func TestNothingPanics(t *testing.T) {
	for _, n := range []int{math.MinInt, -1, 0, 1, 3, 1<<20 + 1, math.MaxInt} {
		for _, decay := range []float64{math.NaN(), math.Inf(1), 0, 5e-324, 0.5} {
			table := score.New(n, decay)
			for _, v := range append(strangers(n), 0, 1, 2) {
				table.Bump(v)
				table.Set(v, decay)
				table.Score(v)
			}
			table.Fade()
			table.Step()
			table.Best(strangers(n))
		}
	}
}

// P2: the same calls give the same answers; tables share nothing.
func TestAnswersHangOnCallsAlone(t *testing.T) {
	first, second, third := score.New(3, 0.5), score.New(3, 0.5), score.New(3, 0.5)
	for _, table := range []*score.Table{first, second} {
		table.Set(0, -7)
		table.Fade()
		table.Bump(1)
		expect(t, "called alike", table, 2, -7, 2, 0)
	}
	expect(t, "not called", third, 1, 0, 0, 0)
}

// P3.1: how many unknowns there are.
func TestNewCount(t *testing.T) {
	for _, c := range [][2]int{
		{math.MinInt, 0}, {-1, 0}, {0, 0}, {1, 1}, {7, 7}, {1<<20 - 1, 1<<20 - 1},
		{1 << 20, 1 << 20}, {1<<20 + 1, 1 << 20}, {1 << 40, 1 << 20}, {math.MaxInt, 1 << 20},
	} {
		table, n := score.New(c[0], 0.5), c[1]
		for v := range n {
			if x := table.Score(v); !same(x, 0) {
				t.Fatalf("of %d: the score of %d is %v", c[0], v, x)
			}
		}
		if !same(table.Step(), 1) {
			t.Errorf("of %d: the step is %v", c[0], table.Step())
		}
		for _, v := range strangers(n) {
			if !math.IsNaN(table.Score(v)) || table.Set(v, 1) || table.Bump(v) {
				t.Errorf("of %d: there is %d", c[0], v)
			}
		}
		if v, ok := table.Best([]int{n, n - 1}); ok != (n > 0) || v != max(n-1, 0) {
			t.Errorf("of %d: %d, %v", c[0], v, ok)
		}
	}
}

// P3.1: which decays may be.
func TestNewDecay(t *testing.T) {
	usual := 1 / 0.95
	for _, c := range []struct{ decay, step float64 }{
		{math.NaN(), usual}, {math.Inf(-1), usual}, {-0.5, usual}, {-5e-324, usual}, {math.Copysign(0, -1), usual}, {0, usual},
		{1, usual}, {math.Nextafter(1, 2), usual}, {2, usual}, {math.MaxFloat64, usual}, {math.Inf(1), usual},
		{0.95, usual}, {0.5, 2}, {0.25, 4}, {math.Nextafter(1, 0), math.Nextafter(1, 2)}, {0x1p-300, 0x1p300}, {5e-324, math.Inf(1)},
	} {
		table := score.New(1, c.decay)
		table.Fade()
		if got := table.Step(); got != c.step {
			t.Errorf("with the decay %v: the step %v, not %v", c.decay, got, c.step)
		}
		for _, bits := range nans() {
			odd := score.New(0, math.Float64frombits(bits))
			odd.Fade()
			if odd.Step() != usual {
				t.Errorf("with the decay %x: the step %v", bits, odd.Step())
			}
		}
	}
}

// P3.1: Set and Score.
func TestSet(t *testing.T) {
	for _, x := range rising() {
		want := x
		if math.IsNaN(x) {
			want = math.Inf(-1)
		}
		if x == 0 {
			want = 0
		}
		expect(t, "Set", tableOf(t, 0.5, 3, x, -4), 1, 3, want, -4)
	}
	for _, bits := range nans() {
		expect(t, "Set of NaN", tableOf(t, 0.5, math.Float64frombits(bits)), 1, math.Inf(-1))
	}
	table := tableOf(t, 0.5, 3, 0, 5)
	if !table.Set(0, -1) || !table.Set(2, 9) || !table.Set(2, 8) {
		t.Error("there are unknowns that there aren't")
	}
	for _, v := range strangers(3) {
		if table.Set(v, 77) {
			t.Errorf("there is %d", v)
		}
	}
	expect(t, "Set", table, 1, -1, 0, 8)
}

// P3.1: Score is NaN where there is no unknown.
func TestScoreOfNone(t *testing.T) {
	table := tableOf(t, 0.5, 3, 4)
	for _, v := range strangers(2) {
		if x := table.Score(v); math.Float64bits(x) != 0x7FF8000000000001 {
			t.Errorf("%d has %v", v, x)
		}
	}
}

// P3.2: what Bump adds, and to which.
func TestBump(t *testing.T) {
	table := tableOf(t, 0.5, 3, 4, -0.5)
	for _, v := range strangers(3) {
		if table.Bump(v) {
			t.Errorf("there is %d", v)
		}
	}
	expect(t, "none bumped", table, 1, 3, 4, -0.5)
	for range 2 {
		if !table.Bump(2) {
			t.Error("there is no 2")
		}
	}
	table.Fade()
	table.Bump(0)
	expect(t, "bumped", table, 2, 5, 4, 1.5)
	table = tableOf(t, 0.5, -1)
	table.Bump(0)
	expect(t, "bumped to nought", table, 1, 0)
}

// P3.2: infinite ones.
func TestBumpInfinite(t *testing.T) {
	up, down := math.Inf(1), math.Inf(-1)
	table := tableOf(t, 0.5, up, down, 1e200, 7)
	table.Bump(0)
	table.Bump(1)
	expect(t, "by 1", table, 1, up, down, 1e200, 7)
	table = score.New(4, 5e-324)
	table.Fade()
	for v, x := range []float64{up, down, 6, -7} {
		table.Set(v, x)
		if v < 3 && !table.Bump(v) {
			t.Errorf("there is no %d", v)
		}
	}
	expect(t, "by +Inf", table, up, up, down, up, -7)
}

// P3.2: where Bump lowers all.
func TestBumpLowers(t *testing.T) {
	up, down, over := math.Inf(1), math.Inf(-1), math.Nextafter(1e100, 1e101)
	table := tableOf(t, 0.5, 1e100, 1, over, up, down)
	table.Bump(0)
	table.Bump(1)
	expect(t, "not above", table, 1, 1e100, 2, over, up, down)
	table = tableOf(t, 0.5, over, 1, -1e300, up, down, -1e-300, 1e-300, 0, -3)
	table.Bump(0)
	// Of -1e-300 comes -0, in the place of which stands +0; of 1e-300 comes +0.
	expect(t, "above", table, 1e-100, lowered(over), 1e-100, lowered(-1e300), up, down, 0, 0, 0, lowered(-3))
	// These are lowered once each time, and the step until nothing is left of it.
	table = tableOf(t, 0.5, 1e301, 1)
	table.Bump(0)
	expect(t, "once", table, 1e-100, lowered(1e301), 1e-100)
	table.Bump(0)
	table.Set(0, math.MaxFloat64)
	table.Bump(0)
	table.Set(0, math.MaxFloat64)
	table.Bump(0)
	expect(t, "often", table, 0, lowered(math.MaxFloat64), 0)
	table.Fade()
	table.Bump(1)
	expect(t, "nothing left", table, 0, lowered(math.MaxFloat64), 0)
}

// P3.2: Fade.
func TestFade(t *testing.T) {
	table := tableOf(t, 0.5, 3, -4)
	table.Fade()
	table.Fade()
	expect(t, "faded", table, 4, 3, -4)
	table = tableOf(t, 0.95, 3)
	want := 1.0
	for range 100 {
		table.Fade()
		want /= 0.95
	}
	expect(t, "a hundred times", table, want, 3)
}

// P3.2: where Fade lowers all.
func TestFadeLowers(t *testing.T) {
	up, down := math.Inf(1), math.Inf(-1)
	table := tableOf(t, 1/1e100, 3, 1e200)
	if 1/(1/1e100) != 1e100 {
		t.Fatal("this isn't at the bound")
	}
	table.Fade()
	expect(t, "not above", table, 1e100, 3, 1e200)
	table = tableOf(t, 0x1p-333, 1e200, 1, up, down, -1e-300, -2)
	table.Fade()
	expect(t, "above", table, lowered(0x1p333), lowered(1e200), 1e-100, up, down, 0, lowered(-2))
	table = tableOf(t, 0x1p-1000, 1)
	table.Fade()
	expect(t, "once", table, lowered(0x1p1000), 1e-100)
	table = tableOf(t, 5e-324, 1, up, down)
	table.Fade()
	expect(t, "by an infinite step", table, up, 1e-100, up, down)
	table.Fade()
	expect(t, "by an infinite step again", table, up, lowered(1e-100), up, down)
}

// P3.1, P3.2: many calls, against exact fractions.
func TestAgainstLedger(t *testing.T) {
	r := rand.New(rand.NewSource(1))
	for _, decay := range []float64{0.95, 0.5, 0.999, 1e-3, 1e-50, 1e-100, 1e-200, 5e-324} {
		for range 20 {
			n := 1 + r.Intn(4)
			table, book := score.New(n, decay), ledger{make([]float64, n), 1, decay}
			for range 300 {
				play(r, table, &book)
				expect(t, "played", table, book.step, book.scores...)
			}
			if t.Failed() {
				t.Fatalf("with the decay %v", decay)
			}
		}
	}
}

func play(r *rand.Rand, table *score.Table, book *ledger) {
	v := r.Intn(len(book.scores))
	switch r.Intn(8) {
	case 0:
		x := random(r)
		table.Set(v, x)
		book.set(v, x)
	case 1, 2, 3:
		table.Fade()
		book.fade()
	default:
		table.Bump(v)
		book.bump(v)
	}
}

// P3.3: Best.
func TestBest(t *testing.T) {
	up, down := math.Inf(1), math.Inf(-1)
	table := tableOf(t, 0.5, 2, 7, -1, 7, down, 0, up, down, 7, math.Copysign(0, -1))
	for _, c := range []struct {
		list []int
		want int
		ok   bool
	}{
		{nil, 0, false}, {[]int{}, 0, false}, {strangers(10), 0, false},
		{[]int{0}, 0, true}, {[]int{4}, 4, true}, {[]int{2, 2}, 2, true}, {[]int{0, 2}, 0, true}, {[]int{2, 0}, 0, true},
		{[]int{1, 3, 8}, 1, true}, {[]int{8, 3, 1}, 1, true}, {[]int{3, 8, 0}, 3, true}, {[]int{8, 0, 3, 8}, 3, true},
		{[]int{7, 4}, 4, true}, {[]int{4, 2, 7}, 2, true}, {[]int{9, 5}, 5, true}, {[]int{5, 9}, 5, true}, {[]int{9, 2}, 9, true},
		{[]int{0, 1, 2, 3, 4, 5, 6, 7, 8, 9}, 6, true}, {[]int{-1, 10, 7, math.MaxInt, math.MinInt}, 7, true}, {[]int{10, 4, -1, 0}, 0, true},
	} {
		elder := slices.Clone(c.list)
		if v, ok := table.Best(c.list); v != c.want || ok != c.ok {
			t.Errorf("of %v: %d, %v", c.list, v, ok)
		}
		if !slices.Equal(c.list, elder) {
			t.Errorf("%v became %v", elder, c.list)
		}
	}
	if v, ok := score.New(0, 0.5).Best([]int{0}); v != 0 || ok {
		t.Error(v, ok)
	}
}

// P3.3: Best follows what Bump and Set do.
func TestBestMoves(t *testing.T) {
	table := score.New(4, 0.5)
	list := []int{3, 2, 1, 0}
	ask := func(want int) {
		t.Helper()
		if v, ok := table.Best(list); v != want || !ok {
			t.Errorf("%d, %v, not %d", v, ok, want)
		}
	}
	ask(0)
	table.Bump(2)
	ask(2)
	table.Bump(3)
	ask(2)
	table.Fade()
	table.Bump(1)
	ask(1)
	table.Set(1, math.NaN())
	ask(2)
}
