package dag_test

import (
	"math"
	"math/rand"
	"slices"
	"strconv"
	"strings"
	"testing"

	"collator/api"
	"collator/dag"
)

// P1: no call panics, whatever comes.
func TestNothingPanics(t *testing.T) {
	list := []int{math.MinInt, -1, 0, 1, 2, 3, 20, math.MaxInt}
	for _, n := range list {
		a := dag.New(n)
		for _, m := range list {
			a.Sort("\xff", n, m)
			a.Sort("s", m)
			a.Fun(api.Fun{Name: "\x00", Args: []int{n}, Result: m})
			a.Fun(api.Fun{Result: m})
			for o := -1; o < 21; o++ {
				a.Term(api.Term{Op: o, Fun: n, Kids: []int{m}, Num: "\xff"})
				a.Term(api.Term{Op: o, Kids: []int{n, m, m}})
				a.Term(api.Term{Op: o, Fun: m})
				a.Term(api.Term{Op: o, Num: "0"})
			}
			a.Term(api.Term{Op: n, Fun: m})
			dag.Hash(api.Term{Op: n, Fun: m, Kids: []int{n, m}, Num: "\xff\x00"})
			a.At(m)
			a.Of(m)
			a.Constant(m)
		}
		a.Sorts()
		a.Funs()
		a.Buckets()
	}
}

// P2: the same calls give the same answers, whatever is done with another arena between.
func TestAnswersHangOnCallsAlone(t *testing.T) {
	r := rand.New(rand.NewSource(1))
	a, b, other := dag.New(300), dag.New(300), dag.New(300)
	l := newLedger(300)
	for range 3000 {
		name, args := string(rune('A'+r.Intn(3))), randomPlaces(r, 1, len(l.sorts))
		f := api.Fun{Name: name, Args: args, Result: randomPlace(r, len(l.sorts))}
		x := l.randomTerm(r)
		l.sort(name, args)
		l.fun(f)
		l.term(x)
		s1, e1 := a.Sort(name, args...)
		f1, e2 := a.Fun(f)
		t1, e3 := a.Term(x)
		other.Term(l.randomTerm(r))
		other.Sort(name)
		s2, e4 := b.Sort(name, args...)
		f2, e5 := b.Fun(f)
		t2, e6 := b.Term(x)
		if s1 != s2 || f1 != f2 || t1 != t2 || e1 != e4 || e2 != e5 || e3 != e6 {
			t.Fatalf("%d %d %d and %d %d %d", s1, f1, t1, s2, f2, t2)
		}
	}
}

// P6.1: an arena has Bool and Int at first, and nothing else.
func TestNew(t *testing.T) {
	for _, n := range []int{math.MinInt, -1, 0, 1, 2, mostEver, math.MaxInt} {
		a := dag.New(n)
		if got := a.Sorts(); len(got) != 2 || !sameSort(got[api.SortBool], api.Sort{Name: "Bool"}) || !sameSort(got[api.SortInt], api.Sort{Name: "Int"}) {
			t.Errorf("%d: the sorts %v", n, got)
		}
		if len(a.Funs()) != 0 || a.Len() != 0 || len(a.Buckets()) != 16 {
			t.Errorf("%d: %v, %d, %v", n, a.Funs(), a.Len(), a.Buckets())
		}
	}
}

// P6.1, P6.2: as many terms as it is for, and no more; those that are there are still found.
func TestLimit(t *testing.T) {
	for _, n := range []int{math.MinInt, -1, 0, 1, 2, 16, 17, 100} {
		a := dag.New(n)
		for i := range max(n, 0) {
			if place, wrong := a.Term(number(strconv.Itoa(i))); place != i || wrong != api.OK {
				t.Fatalf("of %d: %d, %v, not %d", n, place, wrong, i)
			}
		}
		refused(t, a, op(api.OpTrue), api.ErrLimit)
		refused(t, a, number("1000"), api.ErrLimit)
		// What is wrong comes ahead of the limit.
		refused(t, a, number("01"), api.ErrArg)
		refused(t, a, app(0), api.ErrRange)
		refused(t, a, op(api.OpAnd), api.ErrCount)
		for i := range max(n, 0) {
			if place, wrong := a.Term(number(strconv.Itoa(i))); place != i || wrong != api.OK {
				t.Fatalf("of %d: %d, %v, not %d again", n, place, wrong, i)
			}
		}
		if place, wrong := a.Sort("S"); place != 2 || wrong != api.OK {
			t.Errorf("of %d: a sort %d, %v", n, place, wrong)
		}
		if place, wrong := a.Fun(fun("f", 2)); place != 0 || wrong != api.OK {
			t.Errorf("of %d: a function %d, %v", n, place, wrong)
		}
	}
}

// P6.1: 2^20 terms at most, whatever is asked for.
func TestGreatestLimit(t *testing.T) {
	for _, n := range []int{mostEver - 1, mostEver, mostEver + 1} {
		a := dag.New(n)
		f := mustFun(t, a, fun("f", integer, integer))
		last := must(t, a, number("0"))
		for range min(n, mostEver) - 1 {
			last = must(t, a, app(f, last))
		}
		if last != min(n, mostEver)-1 || a.Len() != min(n, mostEver) {
			t.Errorf("of %d: %d", n, a.Len())
		}
		refused(t, a, app(f, last), api.ErrLimit)
		if place, wrong := a.Term(app(f, last-1)); place != last || wrong != api.OK {
			t.Errorf("of %d: %d, %v, not %d", n, place, wrong, last)
		}
		if got := len(a.Buckets()); got != mostEver {
			t.Errorf("of %d: %d buckets", n, got)
		}
	}
}

// P6.1: each sort once, the new ones in order.
func TestSort(t *testing.T) {
	a := dag.New(0)
	for _, c := range []struct {
		name string
		args []int
		want int
	}{
		{"Bool", nil, 0}, {"Int", nil, 1}, {"Bool", []int{}, 0},
		{"U", nil, 2}, {"V", nil, 3}, {"U", nil, 2}, {"", nil, 4}, {"", nil, 4},
		// Over sorts Bool, Int and others are others.
		{"Bool", []int{0}, 5}, {"Int", []int{1}, 6}, {"U", []int{2}, 7}, {"U", []int{2, 2}, 8}, {"U", []int{3, 2}, 9}, {"U", []int{2, 3}, 10}, {"V", []int{2, 3}, 11},
		{"U", []int{7}, 12}, {"U", []int{12}, 13}, {"Bool", []int{0}, 5}, {"U", []int{3, 2}, 9}, {"U", []int{12}, 13},
		// Upper and lower case are apart, and a name may have any bytes.
		{"bool", nil, 14}, {"u", nil, 15}, {"\xff\x00", nil, 16}, {"\xff\x00", []int{16}, 17}, {"\xff\x00", nil, 16}, {"\xff", nil, 18},
	} {
		if place, wrong := a.Sort(c.name, c.args...); place != c.want || wrong != api.OK {
			t.Errorf("%q over %v: %d, %v, not %d", c.name, c.args, place, wrong, c.want)
		}
	}
	if got := a.Sorts(); len(got) != 19 || !sameSort(got[8], api.Sort{Name: "U", Args: []int{2, 2}}) || !sameSort(got[13], api.Sort{Name: "U", Args: []int{12}}) {
		t.Errorf("the sorts %v", got)
	}
}

// P6.1: names that look like numbers, or like what stands between sorts, leave sorts apart.
func TestSortsAreApart(t *testing.T) {
	a, l := dag.New(0), newLedger(0)
	names := []string{"", "1", "1 ", " 1", "1,1", "1 1", "1 1 ", "0", "10", ":", "1 :", "(1)", "|1|", "11", "0 1 ", "1\x00", "\x00"}
	lists := [][]int{nil, {0}, {1}, {1, 1}, {11}, {1, 1, 1}, {1, 11}, {11, 1}, {0, 1}, {1, 0}, {10}, {1, 0, 1}}
	for range 12 {
		mustSort(t, a, strings.Repeat("S", len(a.Sorts())))
	}
	l.sorts = a.Sorts()
	for range 2 {
		for _, name := range names {
			for _, args := range lists {
				want, _ := l.sort(name, args)
				if place, wrong := a.Sort(name, args...); place != want || wrong != api.OK {
					t.Errorf("%q over %v: %d, %v, not %d", name, args, place, wrong, want)
				}
			}
		}
	}
	l.expect(t, a)
}

// P6.1: ErrRange, and nothing changed, of a sort that isn't there.
func TestWrongSorts(t *testing.T) {
	a := dag.New(9)
	u := mustSort(t, a, "U")
	for _, bad := range strangers(u + 1) {
		for _, args := range [][]int{{bad}, {u, bad}, {bad, u}, {0, bad, 1}, {bad, bad}} {
			if place, wrong := a.Sort("U", args...); place != 0 || wrong != api.ErrRange {
				t.Errorf("over %v: %d, %v", args, place, wrong)
			}
			if place, wrong := a.Fun(fun("f", u, args...)); place != 0 || wrong != api.ErrRange {
				t.Errorf("of %v: %d, %v", args, place, wrong)
			}
		}
		for _, f := range []api.Fun{fun("f", bad), fun("f", bad, u), fun("f", bad, bad)} {
			if place, wrong := a.Fun(f); place != 0 || wrong != api.ErrRange {
				t.Errorf("%v: %d, %v", f, place, wrong)
			}
		}
	}
	if len(a.Sorts()) != 3 || len(a.Funs()) != 0 {
		t.Errorf("%v, %v", a.Sorts(), a.Funs())
	}
}

// P6.1: each function is a new one, whatever its name.
func TestFun(t *testing.T) {
	a := dag.New(9)
	u := mustSort(t, a, "U")
	list := []api.Fun{fun("f", u, u), fun("f", u, u), fun("", boolean), fun("f", integer), fun("g", u, boolean, integer, u), fun("\xff", u), fun("f", u, u)}
	for i, f := range list {
		if place, wrong := a.Fun(f); place != i || wrong != api.OK {
			t.Errorf("%v: %d, %v, not %d", f, place, wrong, i)
		}
	}
	if got := a.Funs(); !slices.EqualFunc(got, list, sameFun) {
		t.Errorf("the functions %v, not %v", got, list)
	}
	// Of two functions that look the same the terms are two.
	c := must(t, a, app(5))
	if first, last := must(t, a, app(0, c)), must(t, a, app(6, c)); first == last {
		t.Errorf("both are %d", first)
	}
}

// P6.2: each operator, with as few kids as may be, and more, and the sort of what comes.
func TestTerms(t *testing.T) {
	w := newWorld(t)
	for i, c := range []struct {
		term api.Term
		sort int
	}{
		{op(api.OpTrue), boolean}, {op(api.OpFalse), boolean},
		{app(w.f, w.C), w.u}, {app(w.g, w.X, w.C), boolean},
		{number("0"), integer}, {number("12345678901234567890"), integer},
		{op(api.OpNot, w.P), boolean},
		{op(api.OpAnd, w.P, w.P), boolean}, {op(api.OpOr, w.P, w.P), boolean}, {op(api.OpXor, w.P, w.P), boolean}, {op(api.OpImplies, w.P, w.P), boolean},
		{op(api.OpAnd, w.P, w.P, w.P), boolean}, {op(api.OpOr, w.P, w.P, w.P), boolean}, {op(api.OpXor, w.P, w.P, w.P), boolean}, {op(api.OpImplies, w.P, w.P, w.P), boolean},
		{op(api.OpIte, w.P, w.P, w.P), boolean}, {op(api.OpIte, w.P, w.X, w.N), integer}, {op(api.OpIte, w.P, w.C, w.D), w.u},
		{op(api.OpEqual, w.P, w.P), boolean}, {op(api.OpEqual, w.X, w.N), boolean}, {op(api.OpEqual, w.C, w.D, w.C), boolean},
		{op(api.OpDistinct, w.P, w.P), boolean}, {op(api.OpDistinct, w.X, w.N), boolean}, {op(api.OpDistinct, w.C, w.D, w.C), boolean},
		{op(api.OpAtMost, w.X, w.N), boolean}, {op(api.OpLess, w.X, w.N), boolean}, {op(api.OpAtLeast, w.X, w.N), boolean}, {op(api.OpGreater, w.X, w.N), boolean},
		{op(api.OpAtMost, w.X, w.N, w.Y), boolean}, {op(api.OpLess, w.X, w.N, w.Y), boolean}, {op(api.OpAtLeast, w.X, w.N, w.Y), boolean}, {op(api.OpGreater, w.X, w.N, w.Y), boolean},
		{op(api.OpAdd, w.X, w.Y), integer}, {op(api.OpAdd, w.X, w.Y, w.N), integer},
		{op(api.OpSub, w.X), integer}, {op(api.OpSub, w.X, w.Y), integer}, {op(api.OpSub, w.X, w.Y, w.N), integer},
		{op(api.OpMul, w.X, w.N), integer}, {op(api.OpMul, w.N, w.X), integer}, {op(api.OpMul, w.N, w.N), integer}, {op(api.OpMul, w.N, w.X, w.N), integer}, {op(api.OpMul, w.N, w.N, w.N), integer},
	} {
		want := 6 + i
		if place, wrong := w.Term(c.term); place != want || wrong != api.OK {
			t.Errorf("%v: %d, %v, not %d", c.term, place, wrong, want)
		}
		if got := w.Of(want); got != c.sort {
			t.Errorf("%v is of %d, not %d", c.term, got, c.sort)
		}
		if got, ok := w.At(want); !ok || !sameTerm(got, c.term) {
			t.Errorf("at %d: %v, %v, not %v", want, got, ok, c.term)
		}
		if place, wrong := w.Term(c.term); place != want || wrong != api.OK {
			t.Errorf("%v again: %d, %v, not %d", c.term, place, wrong, want)
		}
	}
}

// P6.2: terms that differ in one thing are two, and a list without elements is a nil one.
func TestTermsAreApart(t *testing.T) {
	w := newWorld(t)
	h := mustFun(t, w.Arena, fun("f", w.u, w.u))
	list := []api.Term{
		op(api.OpAnd, w.P, w.P), op(api.OpOr, w.P, w.P), op(api.OpAnd, w.P, w.P, w.P),
		op(api.OpSub, w.X), op(api.OpSub, w.X, w.X), op(api.OpSub, w.X, w.Y), op(api.OpSub, w.Y, w.X), op(api.OpSub, w.X, w.Y, w.X),
		app(w.f, w.C), app(h, w.C), app(w.f, w.D), number("1"), number("10"), number("11"), number("0"),
	}
	for i, x := range list {
		if place := must(t, w.Arena, x); place != 6+i {
			t.Errorf("%v: %d, not %d", x, place, 6+i)
		}
	}
	first := must(t, w.Arena, api.Term{Op: api.OpTrue})
	if again := must(t, w.Arena, api.Term{Op: api.OpTrue, Kids: []int{}}); again != first {
		t.Errorf("%d, and then %d", first, again)
	}
}

// P6.2: terms of one hash are two, if they aren't one: here by their numbers, or their kids, alone.
func TestTermsOfOneHash(t *testing.T) {
	for _, c := range [][2]api.Term{
		{number("15236010165434024613431"), number("10102130310500552251011")},
		{op(api.OpAdd, places("0764564771341705065670")...), op(api.OpAdd, places("1334413561021537327200")...)},
	} {
		hash := dag.Hash(c[0])
		if other := dag.Hash(c[1]); other != hash {
			t.Fatalf("%x and %x", hash, other)
		}
		a := dag.New(10)
		for i := range 8 {
			must(t, a, number(strconv.Itoa(i)))
		}
		for range 2 {
			if first, second := must(t, a, c[0]), must(t, a, c[1]); first != 8 || second != 9 {
				t.Errorf("%v: %d and %d", c, first, second)
			}
		}
		if got := a.Buckets()[hash%16]; !slices.Equal(got[len(got)-2:], []int{8, 9}) {
			t.Errorf("the bucket %v", got)
		}
	}
}

// places gives numbers of one digit each.
func places(digits string) []int {
	var list []int
	for _, c := range digits {
		list = append(list, int(c-'0'))
	}
	return list
}

// P6.2: ErrArg, of an operator that there isn't, and of a Fun or Num where none may be.
func TestWrongParts(t *testing.T) {
	w := newWorld(t)
	for _, o := range []int{math.MinInt, -1, 0, 20, 21, 1 << 32, 1<<32 + 1, math.MaxInt} {
		refused(t, w.Arena, op(o), api.ErrArg)
		refused(t, w.Arena, op(o, w.P, w.P), api.ErrArg)
	}
	for o := api.OpTrue; o <= api.OpMul; o++ {
		for _, n := range []int{math.MinInt, -1, 1, w.f, math.MaxInt} {
			if o != api.OpApp && n != 0 {
				refused(t, w.Arena, api.Term{Op: o, Fun: n, Num: strings.Repeat("1", btoi(o == api.OpNumber))}, api.ErrArg)
			}
		}
		if o != api.OpNumber {
			for _, text := range []string{"0", "1", "x", "\x00"} {
				refused(t, w.Arena, api.Term{Op: o, Num: text}, api.ErrArg)
			}
		}
	}
	refused(t, w.Arena, api.Term{Op: api.OpApp, Fun: w.x, Num: "1"}, api.ErrArg)
}

func btoi(b bool) int {
	if b {
		return 1
	}
	return 0
}

// P6.2: what digits a number may have.
func TestNumbers(t *testing.T) {
	a := dag.New(1000)
	right := []string{"0", "1", "9", "10", "100", "1234567890", strings.Repeat("9", 9999), "1" + strings.Repeat("0", 9999)}
	for i, text := range right {
		if place, wrong := a.Term(number(text)); place != i || wrong != api.OK {
			t.Errorf("%.20s: %d, %v", text, place, wrong)
		}
	}
	for _, text := range []string{"", "00", "01", "007", "-1", "-0", "+1", " 1", "1 ", "1.0", "0x1", "a", "1a", "a1", "1\x00", "\x00", "١", "1_0", "1e3", "/", ":", "1/", "1:", "1" + strings.Repeat("0", 10000), strings.Repeat("0", 10000), strings.Repeat("1", 20000)} {
		refused(t, a, number(text), api.ErrArg)
	}
	for c := range 256 {
		text := "1" + string([]byte{byte(c)})
		if _, wrong := a.Term(number(text)); (wrong == api.OK) != (c >= '0' && c <= '9') {
			t.Errorf("%q: %v", text, wrong)
		}
	}
}

// P6.2: ErrRange, of a function, or a kid, that isn't there.
func TestWrongPlaces(t *testing.T) {
	w := newWorld(t)
	for _, bad := range strangers(len(w.Funs())) {
		refused(t, w.Arena, app(bad), api.ErrRange)
		refused(t, w.Arena, app(bad, w.C), api.ErrRange)
	}
	for _, bad := range strangers(w.Len()) {
		for _, x := range []api.Term{
			op(api.OpNot, bad), op(api.OpAnd, bad, w.P), op(api.OpAnd, w.P, bad), op(api.OpAnd, w.P, w.P, bad), op(api.OpIte, w.P, w.X, bad), op(api.OpIte, bad, w.X, w.X), op(api.OpEqual, bad, bad),
			app(w.f, bad), app(w.g, w.X, bad), op(api.OpMul, w.N, bad), op(api.OpSub, bad),
		} {
			refused(t, w.Arena, x, api.ErrRange)
		}
	}
	// A term isn't there ahead of itself.
	refused(t, w.Arena, op(api.OpNot, w.Len()), api.ErrRange)
	refused(t, dag.New(9), app(0), api.ErrRange)
}

// P6.2: ErrCount, of too few kids and too many.
func TestWrongCounts(t *testing.T) {
	w := newWorld(t)
	for _, x := range []api.Term{
		op(api.OpTrue, w.P), op(api.OpFalse, w.P), {Op: api.OpNumber, Num: "1", Kids: []int{w.N}},
		app(w.x, w.X), app(w.f), app(w.f, w.C, w.C), app(w.g), app(w.g, w.X), app(w.g, w.X, w.C, w.C),
		op(api.OpNot), op(api.OpNot, w.P, w.P), op(api.OpIte), op(api.OpIte, w.P), op(api.OpIte, w.P, w.X), op(api.OpIte, w.P, w.X, w.X, w.X), op(api.OpSub),
	} {
		refused(t, w.Arena, x, api.ErrCount)
	}
	for o := api.OpAnd; o <= api.OpMul; o++ {
		if o == api.OpIte || o == api.OpSub {
			continue
		}
		refused(t, w.Arena, op(o), api.ErrCount)
		kid := w.P
		if o >= api.OpAtMost {
			kid = w.N
		}
		refused(t, w.Arena, op(o, kid), api.ErrCount)
	}
}

// P6.2: ErrSort, whichever kid it is.
func TestWrongKidsSorts(t *testing.T) {
	w := newWorld(t)
	for _, x := range []api.Term{
		app(w.f, w.X), app(w.f, w.P), app(w.g, w.C, w.X), app(w.g, w.X, w.X), app(w.g, w.C, w.C),
		op(api.OpNot, w.X), op(api.OpNot, w.C),
		op(api.OpIte, w.X, w.X, w.X), op(api.OpIte, w.C, w.C, w.C), op(api.OpIte, w.P, w.X, w.C), op(api.OpIte, w.P, w.P, w.X), op(api.OpIte, w.P, w.X, w.P),
		op(api.OpEqual, w.P, w.X), op(api.OpEqual, w.X, w.C), op(api.OpEqual, w.C, w.D, w.X), op(api.OpEqual, w.X, w.C, w.C), op(api.OpEqual, w.C, w.X, w.C),
		op(api.OpDistinct, w.P, w.X), op(api.OpDistinct, w.X, w.C), op(api.OpDistinct, w.C, w.D, w.X), op(api.OpDistinct, w.X, w.C, w.C),
		op(api.OpSub, w.P), op(api.OpSub, w.C), op(api.OpSub, w.X, w.P), op(api.OpSub, w.P, w.X),
	} {
		refused(t, w.Arena, x, api.ErrSort)
	}
	for o := api.OpAnd; o <= api.OpImplies; o++ {
		for _, bad := range []int{w.X, w.C} {
			refused(t, w.Arena, op(o, bad, w.P), api.ErrSort)
			refused(t, w.Arena, op(o, w.P, bad), api.ErrSort)
			refused(t, w.Arena, op(o, w.P, w.P, bad), api.ErrSort)
			refused(t, w.Arena, op(o, bad, bad), api.ErrSort)
		}
	}
	for o := api.OpAtMost; o <= api.OpMul; o++ {
		for _, bad := range []int{w.P, w.C} {
			refused(t, w.Arena, op(o, bad, w.N), api.ErrSort)
			refused(t, w.Arena, op(o, w.N, bad), api.ErrSort)
			refused(t, w.Arena, op(o, w.N, w.N, bad), api.ErrSort)
			refused(t, w.Arena, op(o, bad, bad), api.ErrSort)
		}
	}
}

// P6.2: sorts of one name over others are others.
func TestSortsOverSorts(t *testing.T) {
	w := newWorld(t)
	other := mustSort(t, w.Arena, "Pair", integer, w.u)
	c := must(t, w.Arena, app(mustFun(t, w.Arena, fun("c2", w.pair))))
	d := must(t, w.Arena, app(mustFun(t, w.Arena, fun("d2", other))))
	refused(t, w.Arena, op(api.OpEqual, c, d), api.ErrSort)
	if place := must(t, w.Arena, op(api.OpIte, w.P, c, c)); w.Of(place) != w.pair {
		t.Errorf("of %d, not %d", w.Of(place), w.pair)
	}
}

// P6.2, P6.3: products of unknowns, and what is constant.
func TestProducts(t *testing.T) {
	w := newWorld(t)
	minus := must(t, w.Arena, op(api.OpSub, w.N))
	plus := must(t, w.Arena, op(api.OpSub, minus))
	zero := must(t, w.Arena, number("0"))
	difference := must(t, w.Arena, op(api.OpSub, w.N, w.N))
	sum := must(t, w.Arena, op(api.OpAdd, w.N, w.N))
	product := must(t, w.Arena, op(api.OpMul, w.N, w.N))
	choice := must(t, w.Arena, op(api.OpIte, w.P, w.N, w.N))
	less := must(t, w.Arena, op(api.OpSub, w.X))
	over := must(t, w.Arena, op(api.OpSub, product))
	for _, c := range []int{w.N, minus, plus, zero} {
		if !w.Constant(c) {
			t.Errorf("%d isn't constant", c)
		}
		must(t, w.Arena, op(api.OpMul, c, w.X))
		must(t, w.Arena, op(api.OpMul, w.X, c))
		must(t, w.Arena, op(api.OpMul, c, c, less, c))
		refused(t, w.Arena, op(api.OpMul, w.X, c, w.Y), api.ErrLine)
	}
	for _, u := range []int{w.X, difference, sum, product, choice, less, over} {
		if w.Constant(u) {
			t.Errorf("%d is constant", u)
		}
		must(t, w.Arena, op(api.OpMul, w.N, u))
		refused(t, w.Arena, op(api.OpMul, u, w.X), api.ErrLine)
		refused(t, w.Arena, op(api.OpMul, w.N, u, w.N, w.Y), api.ErrLine)
		refused(t, w.Arena, op(api.OpMul, u, u), api.ErrLine)
	}
	for _, u := range []int{w.P, w.C, must(t, w.Arena, op(api.OpTrue))} {
		if w.Constant(u) {
			t.Errorf("%d is constant", u)
		}
	}
}

// P6.2: of two things that are wrong the first one in order is told.
func TestOrderOfErrors(t *testing.T) {
	w := newWorld(t)
	for _, c := range []struct {
		term api.Term
		want api.Errno
	}{
		{api.Term{Op: 0, Fun: 99, Kids: []int{-1}}, api.ErrArg},
		{api.Term{Op: api.OpApp, Fun: 99, Num: "1"}, api.ErrArg},
		{api.Term{Op: api.OpNumber, Num: "01", Kids: []int{99}}, api.ErrArg},
		{api.Term{Op: api.OpNot, Fun: 1, Kids: []int{99, 99}}, api.ErrArg},
		{api.Term{Op: api.OpNumber, Num: "1", Fun: -1}, api.ErrArg},
		{api.Term{Op: api.OpTrue, Num: "1", Kids: []int{w.P}}, api.ErrArg},
		{app(99, 99), api.ErrRange}, {app(w.f, 99, 99), api.ErrRange}, {app(w.g, w.C, 99), api.ErrRange},
		{op(api.OpTrue, 99), api.ErrRange}, {op(api.OpNot, w.P, 99), api.ErrRange}, {op(api.OpAnd, 99), api.ErrRange}, {op(api.OpAnd, w.X, 99), api.ErrRange}, {op(api.OpMul, w.X, w.X, 99), api.ErrRange},
		{op(api.OpTrue, w.X), api.ErrCount}, {op(api.OpNot, w.X, w.X), api.ErrCount}, {op(api.OpAnd, w.X), api.ErrCount}, {op(api.OpIte, w.X, w.C), api.ErrCount}, {app(w.f, w.X, w.X), api.ErrCount}, {op(api.OpMul, w.P), api.ErrCount}, {op(api.OpIte, w.P, w.X, w.P, w.C), api.ErrCount},
		{op(api.OpMul, w.X, w.X, w.P), api.ErrSort}, {op(api.OpMul, w.C, w.C), api.ErrSort},
	} {
		refused(t, w.Arena, c.term, c.want)
	}
}

// P6.3: of no term there is nothing.
func TestNoTerm(t *testing.T) {
	w := newWorld(t)
	for _, a := range []*dag.Arena{w.Arena, dag.New(9)} {
		for _, bad := range strangers(a.Len()) {
			x, ok := a.At(bad)
			if !sameTerm(x, api.Term{}) || ok || a.Of(bad) != -1 || a.Constant(bad) {
				t.Errorf("%d: %v, %v, %d, %v", bad, x, ok, a.Of(bad), a.Constant(bad))
			}
		}
	}
}

// P6.3: hashes, some that are known, and others reckoned in another way.
func TestHash(t *testing.T) {
	for _, c := range []struct {
		term api.Term
		want uint64
	}{
		{api.Term{}, 0xD94D12186C0F2FB7}, {op(api.OpTrue), 0xD0A397186727310C}, {number("0"), 0xCD3AF65E44F77341}, {number("10"), 0xB2A0AD2F307645DA},
		{app(5, 7, 300), 0x2298772D5B4DE08E},
		{api.Term{Op: -1, Fun: math.MinInt, Kids: []int{-1, math.MaxInt}, Num: "\xff\x00"}, 0x418CC7144EB8BA39},
	} {
		if got := dag.Hash(c.term); got != c.want {
			t.Errorf("%v: %x, not %x", c.term, got, c.want)
		}
	}
	r := rand.New(rand.NewSource(2))
	for range 5000 {
		x := api.Term{Op: r.Intn(40) - 10, Fun: randomPlace(r, 9), Kids: randomPlaces(r, 4, 1000)}
		if r.Intn(2) == 0 {
			text := make([]byte, r.Intn(9))
			r.Read(text)
			x.Num = string(text)
		}
		if got, want := dag.Hash(x), hashOf(x); got != want {
			t.Fatalf("%v: %x, not %x", x, got, want)
		}
	}
}

// P6.3: how many buckets, and what stands where, each time that a term comes.
func TestBuckets(t *testing.T) {
	a, l := dag.New(300), newLedger(300)
	for i := range 270 {
		if got, want := a.Buckets(), l.buckets(); !slices.EqualFunc(got, want, slices.Equal[[]int]) {
			t.Fatalf("of %d: %v, not %v", i, got, want)
		}
		// What is there already, or can't be, makes no more buckets.
		x := number(strconv.Itoa(i))
		l.term(x)
		must(t, a, x)
		must(t, a, x)
		refused(t, a, op(api.OpAnd), api.ErrCount)
	}
	for n, want := range map[int]int{0: 16, 1: 16, 15: 16, 16: 16, 17: 32, 32: 32, 33: 64, 64: 64, 65: 128, 256: 256, 257: 512} {
		b := dag.New(300)
		for i := range n {
			must(t, b, number(strconv.Itoa(i)))
		}
		if got := len(b.Buckets()); got != want {
			t.Errorf("of %d: %d buckets, not %d", n, got, want)
		}
	}
}

// P6.1, P6.2, P6.3: arenas of all kinds, call by call.
func TestRandom(t *testing.T) {
	r := rand.New(rand.NewSource(3))
	seen := map[api.Errno]int{}
	for range 60 {
		most := r.Intn(120)
		a, l := dag.New(most), newLedger(most)
		for range 1500 {
			switch r.Intn(12) {
			case 0:
				name, args := string(rune('A'+r.Intn(3))), randomPlaces(r, 2, min(len(l.sorts), 5))
				want, wrong := l.sort(name, args)
				if got, e := a.Sort(name, args...); got != want || e != wrong {
					t.Fatalf("%s over %v: %d, %v, not %d, %v", name, args, got, e, want, wrong)
				}
			case 1:
				f := api.Fun{Name: "f", Args: randomPlaces(r, 2, min(len(l.sorts), 4)), Result: randomPlace(r, min(len(l.sorts), 4))}
				want, wrong := l.fun(f)
				if got, e := a.Fun(f); got != want || e != wrong {
					t.Fatalf("%v: %d, %v, not %d, %v", f, got, e, want, wrong)
				}
			default:
				x := l.randomTerm(r)
				want, wrong := l.term(x)
				seen[wrong]++
				if got, e := a.Term(x); got != want || e != wrong {
					t.Fatalf("%v: %d, %v, not %d, %v", x, got, e, want, wrong)
				}
			}
		}
		l.expect(t, a)
	}
	for _, e := range []api.Errno{api.OK, api.ErrArg, api.ErrRange, api.ErrCount, api.ErrSort, api.ErrLine, api.ErrLimit} {
		if seen[e] < 20 {
			t.Errorf("%v came %d times", e, seen[e])
		}
	}
}

// P1, P6.2: terms that are very deep, and very wide.
func TestDeepAndWide(t *testing.T) {
	const n = 200000
	a := dag.New(mostEver)
	place := must(t, a, number("1"))
	for range n {
		place = must(t, a, op(api.OpSub, place))
	}
	if place != n || !a.Constant(place) {
		t.Errorf("%d, constant %v", place, a.Constant(place))
	}
	kids := make([]int, n)
	for i := range kids {
		kids[i] = i
	}
	wide := must(t, a, op(api.OpMul, kids...))
	if again := must(t, a, op(api.OpMul, kids...)); again != wide || wide != n+1 {
		t.Errorf("%d, and then %d", wide, again)
	}
	kids[n-1]--
	if other := must(t, a, op(api.OpMul, kids...)); other == wide {
		t.Errorf("%d is two terms", wide)
	}
}

// Rule 4: what is handed in isn't changed, and isn't kept; what is answered is new memory.
func TestNothingIsShared(t *testing.T) {
	w := newWorld(t)
	l := newLedger(1000)
	args, takes, kids := []int{w.u, integer, boolean}, []int{integer, w.u}, []int{w.X, w.Y, w.N}
	s := mustSort(t, w.Arena, "T", args...)
	f := mustFun(t, w.Arena, fun("h", s, takes...))
	x := must(t, w.Arena, op(api.OpAdd, kids...))
	if !slices.Equal(args, []int{w.u, integer, boolean}) || !slices.Equal(takes, []int{integer, w.u}) || !slices.Equal(kids, []int{w.X, w.Y, w.N}) {
		t.Errorf("%v, %v, %v", args, takes, kids)
	}
	clear(args)
	clear(takes)
	clear(kids)
	l.copy(w.Arena)
	if !slices.Equal(l.sorts[s].Args, []int{w.u, integer, boolean}) || !slices.Equal(l.funs[f].Args, []int{integer, w.u}) || !slices.Equal(l.terms[x].Kids, []int{w.X, w.Y, w.N}) {
		t.Errorf("%v, %v, %v", l.sorts[s], l.funs[f], l.terms[x])
	}
	for range 2 {
		first, second := answers(w.Arena), copies(answers(w.Arena))
		for _, list := range first {
			// What is laid behind a list must not come into another one.
			_ = append(list, -7)
		}
		if !slices.EqualFunc(first, second, slices.Equal[[]int]) {
			t.Errorf("%v, and then %v", second, first)
		}
		for _, list := range first {
			for i := range list {
				list[i] = -7
			}
		}
		if !slices.EqualFunc(answers(w.Arena), second, slices.Equal[[]int]) {
			t.Errorf("%v, and then %v", second, answers(w.Arena))
		}
		l.expect(t, w.Arena)
	}
	if again := must(t, w.Arena, op(api.OpAdd, w.X, w.Y, w.N)); again != x {
		t.Errorf("%d, and then %d", x, again)
	}
	if again := mustSort(t, w.Arena, "T", w.u, integer, boolean); again != s {
		t.Errorf("%d, and then %d", s, again)
	}
}

// answers gives all lists of numbers that an arena answers.
func answers(a *dag.Arena) [][]int {
	lists := a.Buckets()
	for _, s := range a.Sorts() {
		lists = append(lists, s.Args)
	}
	for _, f := range a.Funs() {
		lists = append(lists, f.Args)
	}
	for i := range a.Len() {
		x, _ := a.At(i)
		lists = append(lists, x.Kids)
	}
	return lists
}

// copies gives lists that share nothing with these.
func copies(lists [][]int) [][]int {
	fresh := make([][]int, len(lists))
	for i := range lists {
		fresh[i] = append([]int(nil), lists[i]...)
	}
	return fresh
}

// Rule 4: lists of sorts, functions and buckets are new each time.
func TestListsAreNew(t *testing.T) {
	w := newWorld(t)
	l := newLedger(1000)
	l.copy(w.Arena)
	sorts, funs, buckets := w.Sorts(), w.Funs(), w.Buckets()
	clear(sorts)
	clear(funs)
	clear(buckets)
	l.expect(t, w.Arena)
	// What is laid behind a list must not come into what is added later, nor the other way round.
	sorts, funs = append(w.Sorts(), api.Sort{Name: "spoilt"}), append(w.Funs(), fun("spoilt", 0))
	l.sort("new", nil)
	l.fun(fun("new", 1))
	mustSort(t, w.Arena, "new")
	mustFun(t, w.Arena, fun("new", 1))
	l.expect(t, w.Arena)
	if sorts[len(sorts)-1].Name != "spoilt" || funs[len(funs)-1].Name != "spoilt" {
		t.Errorf("%v, %v", sorts, funs)
	}
}
