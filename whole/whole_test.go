package whole_test

import (
	"math"
	"math/big"
	"math/rand"
	"slices"
	"strings"
	"testing"

	"collator/api"
	"collator/whole"
)

// P1: no call panics, whatever integers and texts come.
func TestNothingPanics(t *testing.T) {
	list := wrong()
	for _, n := range edges() {
		list = append(list, intOf(n))
	}
	for _, x := range list {
		for _, call := range unary() {
			call(x)
		}
		for _, y := range list {
			for _, call := range binary() {
				call(x, y)
			}
		}
	}
	for _, s := range []string{"", "-", "\x00", "\xff\xfe", "-\xff", "é", strings.Repeat("9", 1<<20), strings.Repeat("-", 1<<20)} {
		whole.Parse(s)
	}
}

// The chapter leaves free what comes of an integer that may not be; README.md says that it counts as 0.
func TestWrongOnesCountAsNought(t *testing.T) {
	for _, x := range wrong() {
		if s := whole.Text(x); s != "0" {
			t.Errorf("Text of %v: %s", x, s)
		}
		for name, call := range unary() {
			if name != "Right" && !slices.EqualFunc(call(x), call(api.Int{}), same) {
				t.Errorf("%s of %v: %v", name, x, call(x))
			}
		}
		for name, call := range binary() {
			for _, n := range edges() {
				y := intOf(n)
				if !slices.EqualFunc(call(x, y), call(api.Int{}, y), same) {
					t.Errorf("%s of %v, %v: %v", name, x, y, call(x, y))
				}
				if !slices.EqualFunc(call(y, x), call(y, api.Int{}), same) {
					t.Errorf("%s of %v, %v: %v", name, y, x, call(y, x))
				}
			}
		}
	}
}

// P2, and rules 4 and 7: an answer hangs on the arguments alone, which stay as they are; and it shares no memory.
func TestAnswersHangOnArgumentsAlone(t *testing.T) {
	var list []api.Int
	for _, n := range edges() {
		list = append(list, intOf(n))
	}
	for _, x := range append(list, wrong()...) {
		for name, call := range unary() {
			checkCall(t, name, func(args []api.Int) []api.Int { return call(args[0]) }, x)
		}
	}
	for _, x := range list {
		for _, y := range list {
			for name, call := range binary() {
				checkCall(t, name, func(args []api.Int) []api.Int { return call(args[0], args[1]) }, x, y)
			}
		}
	}
}

func checkCall(t *testing.T, name string, call func([]api.Int) []api.Int, args ...api.Int) {
	t.Helper()
	elder := make([]api.Int, len(args))
	for i, x := range args {
		elder[i] = clone(x)
	}
	first, second := call(args), call(args)
	if !slices.EqualFunc(first, second, same) {
		t.Fatalf("%s of %v: %v, then %v", name, args, first, second)
	}
	if !slices.EqualFunc(args, elder, same) {
		t.Fatalf("%s of %v: these are %v behind it", name, elder, args)
	}
	if !apart(slices.Concat(first, second), args) {
		t.Fatalf("%s of %v shares memory", name, args)
	}
}

func TestOf(t *testing.T) {
	for _, n := range []int64{
		0, 1, -1, 9, 999_999_999, -999_999_999, 1_000_000_000, -1_000_000_000, 1_000_000_001,
		999_999_999_999_999_999, 1_000_000_000_000_000_000, -1_000_000_000_000_000_000,
		math.MaxInt64, math.MinInt64, math.MinInt64 + 1,
	} {
		expect(t, "Of", whole.Of(n), big.NewInt(n))
	}
	if x := whole.Of(-2_000_000_007); !same(x, api.Int{Neg: true, Digits: []uint32{7, 2}}) {
		t.Error(x)
	}
	if x := whole.Of(0); x.Neg || len(x.Digits) != 0 {
		t.Error(x)
	}
}

func TestRight(t *testing.T) {
	for _, x := range wrong() {
		if whole.Right(x) {
			t.Errorf("%v may be", x)
		}
	}
	for _, n := range edges() {
		if x := intOf(n); !whole.Right(x) {
			t.Errorf("%v may not be", x)
		}
	}
	for _, x := range []api.Int{
		{}, {Digits: []uint32{}}, {Digits: []uint32{0, 1}}, {Neg: true, Digits: []uint32{0, 0, 999_999_999}}, {Digits: []uint32{999_999_999}},
	} {
		if !whole.Right(x) {
			t.Errorf("%v may not be", x)
		}
	}
}

func TestCmp(t *testing.T) {
	list := edges()
	for _, x := range list {
		for _, y := range list {
			if got := whole.Cmp(intOf(x), intOf(y)); got != x.Cmp(y) {
				t.Errorf("Cmp of %v, %v: %d", x, y, got)
			}
		}
	}
	if whole.Cmp(api.Int{}, api.Int{Digits: []uint32{}}) != 0 {
		t.Error("a nil list and one without elements are apart")
	}
}

func TestAddNegMul(t *testing.T) {
	list := edges()
	for _, x := range list {
		expect(t, "Neg", whole.Neg(intOf(x)), new(big.Int).Neg(x), x)
		for _, y := range list {
			expect(t, "Add", whole.Add(intOf(x), intOf(y)), new(big.Int).Add(x, y), x, y)
			expect(t, "Mul", whole.Mul(intOf(x), intOf(y)), new(big.Int).Mul(x, y), x, y)
		}
	}
}

func TestGcd(t *testing.T) {
	list := edges()
	for _, x := range list {
		for _, y := range list {
			want := new(big.Int).GCD(nil, nil, new(big.Int).Abs(x), new(big.Int).Abs(y))
			expect(t, "Gcd", whole.Gcd(intOf(x), intOf(y)), want, x, y)
		}
	}
	if x := whole.Gcd(api.Int{}, api.Int{}); !same(x, api.Int{}) {
		t.Error(x)
	}
}

// Of numbers that have a great one in common.
func TestGcdOfMultiples(t *testing.T) {
	r := rand.New(rand.NewSource(2))
	for range 300 {
		both := bigOf(random(r, 1+r.Intn(9)))
		x := new(big.Int).Mul(both, bigOf(random(r, 1+r.Intn(9))))
		y := new(big.Int).Mul(both, bigOf(random(r, 1+r.Intn(9))))
		want := new(big.Int).GCD(nil, nil, new(big.Int).Abs(x), new(big.Int).Abs(y))
		expect(t, "Gcd", whole.Gcd(intOf(x), intOf(y)), want, x, y)
	}
}

func checkDiv(t *testing.T, x, y *big.Int) {
	t.Helper()
	q, r := whole.Div(intOf(x), intOf(y))
	if y.Sign() == 0 {
		if !same(q, api.Int{}) || !same(r, api.Int{}) {
			t.Errorf("Div of %v by 0: %v, %v", x, q, r)
		}
		return
	}
	// This one's is the way with what is left 0 or more.
	often, rest := new(big.Int).DivMod(x, y, new(big.Int))
	expect(t, "Div", q, often, x, y)
	expect(t, "what is left", r, rest, x, y)
}

func TestDiv(t *testing.T) {
	list := edges()
	for _, x := range list {
		for _, y := range list {
			checkDiv(t, x, y)
		}
	}
	if q, r := whole.Div(whole.Of(-7), whole.Of(2)); whole.Text(q) != "-4" || whole.Text(r) != "1" {
		t.Error(q, r)
	}
	if q, r := whole.Div(whole.Of(5), api.Int{Digits: []uint32{}}); !same(q, api.Int{}) || !same(r, api.Int{}) {
		t.Error(q, r)
	}
}

// Of products, and of what is next to them: there guesses are at their worst.
func TestDivOfProducts(t *testing.T) {
	r := rand.New(rand.NewSource(3))
	for range 3000 {
		y := bigOf(random(r, 1+r.Intn(12)))
		x := new(big.Int).Mul(y, bigOf(random(r, 1+r.Intn(12))))
		for _, more := range []*big.Int{big.NewInt(0), big.NewInt(1), big.NewInt(-1), bigOf(random(r, 1+r.Intn(12)))} {
			checkDiv(t, new(big.Int).Add(x, more), y)
		}
	}
}

func TestGreatNumbers(t *testing.T) {
	r := rand.New(rand.NewSource(4))
	for range 4 {
		x, y := bigOf(random(r, 2000+r.Intn(300))), bigOf(random(r, 900+r.Intn(300)))
		expect(t, "Mul", whole.Mul(intOf(x), intOf(y)), new(big.Int).Mul(x, y))
		expect(t, "Gcd", whole.Gcd(intOf(x), intOf(y)), new(big.Int).GCD(nil, nil, new(big.Int).Abs(x), new(big.Int).Abs(y)))
		checkDiv(t, x, y)
		if got := whole.Text(intOf(x)); got != x.String() {
			t.Errorf("Text of %v: %s", x, got)
		}
	}
}

func TestText(t *testing.T) {
	for _, n := range edges() {
		if got := whole.Text(intOf(n)); got != n.String() {
			t.Errorf("Text of %v: %s", n, got)
		}
	}
	for want, x := range map[string]api.Int{
		"0":                    {Digits: []uint32{}},
		"7000000000":           {Digits: []uint32{0, 7}},
		"-1000000042000000000": {Neg: true, Digits: []uint32{0, 42, 1}},
		"12000000010":          {Digits: []uint32{10, 12}},
	} {
		if got := whole.Text(x); got != want {
			t.Errorf("%s, not %s", got, want)
		}
	}
}

func TestParse(t *testing.T) {
	for _, n := range edges() {
		for _, noughts := range []string{"", "0", "000000000", "0000000000000"} {
			sign, digits := "", n.String()
			if n.Sign() < 0 {
				sign, digits = "-", digits[1:]
			}
			x, ok := whole.Parse(sign + noughts + digits)
			if !ok {
				t.Errorf("%v isn't read", n)
			}
			expect(t, "Parse", x, n)
		}
	}
	for _, s := range []string{"0", "-0", "00", "-000000000000000000000"} {
		if x, ok := whole.Parse(s); !ok || !same(x, api.Int{}) {
			t.Errorf("%s: %v, %v", s, x, ok)
		}
	}
}

func TestParseOfManyDigits(t *testing.T) {
	nines := strings.Repeat("9", 10_000)
	for _, s := range []string{nines, "-" + nines, "1" + strings.Repeat("0", 9_999)} {
		if x, ok := whole.Parse(s); !ok || !whole.Right(x) || whole.Text(x) != s {
			t.Errorf("%.5s of %d bytes isn't read", s, len(s))
		}
	}
	if x, ok := whole.Parse(strings.Repeat("0", 9_999) + "5"); !ok || !same(x, whole.Of(5)) {
		t.Error(x, ok)
	}
	for _, s := range []string{nines + "9", "-" + nines + "9", "0" + nines, strings.Repeat("0", 10_001)} {
		if x, ok := whole.Parse(s); ok || !same(x, api.Int{}) {
			t.Errorf("%.5s of %d bytes is read", s, len(s))
		}
	}
}

func TestParseOfOthers(t *testing.T) {
	for _, s := range []string{
		"", "-", "--1", "+1", "1-", "-+1", " 1", "1 ", "1\n", "1_0", "1,0", "1.0", "1e3", "0x1", "1/2", "/", ":", "1:", "a",
		"\x00", "1\x00", "\xb1", "\uff11", "\u0661", "1234567890/", "-123456789:0", "\u22121",
	} {
		if x, ok := whole.Parse(s); ok || !same(x, api.Int{}) {
			t.Errorf("%q: %v, %v", s, x, ok)
		}
	}
}

func TestSmall(t *testing.T) {
	const bound = 1 << 62
	for _, n := range []int64{0, 1, -1, 999_999_999, 1_000_000_000, -1_000_000_000, 1_000_000_000_000_000_000, bound - 1, bound, -bound, 1 - bound} {
		if got, ok := whole.Small(whole.Of(n)); !ok || int64(got) != n {
			t.Errorf("%d: %d, %v", n, got, ok)
		}
	}
	for _, n := range []int64{bound + 1, -bound - 1, 4_999_999_999_999_999_999, 5_000_000_000_000_000_000, math.MaxInt64, math.MinInt64} {
		if got, ok := whole.Small(whole.Of(n)); ok || got != 0 {
			t.Errorf("%d: %d, %v", n, got, ok)
		}
	}
	for _, n := range edges() {
		want, fits := n.Int64(), n.CmpAbs(big.NewInt(bound)) <= 0
		if !fits {
			want = 0
		}
		if got, ok := whole.Small(intOf(n)); ok != fits || int64(got) != want {
			t.Errorf("%v: %d, %v", n, got, ok)
		}
	}
}
