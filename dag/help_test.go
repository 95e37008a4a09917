package dag_test

import (
	"math"
	"math/big"
	"math/rand"
	"slices"
	"testing"

	"collator/api"
	"collator/dag"
)

const (
	boolean  = api.SortBool
	integer  = api.SortInt
	mostEver = 1 << 20
)

// strangers are places that nothing of n has.
func strangers(n int) []int {
	return []int{math.MinInt, -1 << 62, -2, -1, n, n + 1, 1 << 32, 1 << 62, math.MaxInt}
}

func op(o int, kids ...int) api.Term { return api.Term{Op: o, Kids: kids} }

func app(fun int, kids ...int) api.Term { return api.Term{Op: api.OpApp, Fun: fun, Kids: kids} }

func number(digits string) api.Term { return api.Term{Op: api.OpNumber, Num: digits} }

func fun(name string, result int, args ...int) api.Fun {
	return api.Fun{Name: name, Args: args, Result: result}
}

// mustSort gives the place of a sort that may be.
func mustSort(t *testing.T, a *dag.Arena, name string, args ...int) int {
	t.Helper()
	place, wrong := a.Sort(name, args...)
	if wrong != api.OK {
		t.Fatalf("the sort %q over %v: %v", name, args, wrong)
	}
	return place
}

// mustFun gives the place of a function that may be.
func mustFun(t *testing.T, a *dag.Arena, f api.Fun) int {
	t.Helper()
	place, wrong := a.Fun(f)
	if wrong != api.OK {
		t.Fatalf("the function %v: %v", f, wrong)
	}
	return place
}

// must gives the place of a term that may be.
func must(t *testing.T, a *dag.Arena, x api.Term) int {
	t.Helper()
	place, wrong := a.Term(x)
	if wrong != api.OK {
		t.Fatalf("the term %v: %v", x, wrong)
	}
	return place
}

// refused asks that a term isn't taken, for a reason, and that nothing is changed by that.
func refused(t *testing.T, a *dag.Arena, x api.Term, want api.Errno) {
	t.Helper()
	before := a.Len()
	if place, wrong := a.Term(x); place != 0 || wrong != want {
		t.Errorf("%v: %d, %v, not %v", x, place, wrong, want)
	}
	if a.Len() != before {
		t.Errorf("%v became a term beside %v", x, want)
	}
}

// world is an arena with some of all.
type world struct {
	*dag.Arena
	u, pair             int // sorts
	f, g, x, y, c, d, p int // functions: f of U, g of an Int and a U; x, y Ints, c, d of U, p Bool
	X, Y, C, D, P, N    int // terms: these, and a number
}

func newWorld(t *testing.T) world {
	t.Helper()
	w := world{Arena: dag.New(1000)}
	w.u = mustSort(t, w.Arena, "U")
	w.pair = mustSort(t, w.Arena, "Pair", w.u, integer)
	w.f = mustFun(t, w.Arena, fun("f", w.u, w.u))
	w.g = mustFun(t, w.Arena, fun("g", boolean, integer, w.u))
	w.x = mustFun(t, w.Arena, fun("x", integer))
	w.y = mustFun(t, w.Arena, fun("y", integer))
	w.c = mustFun(t, w.Arena, fun("c", w.u))
	w.d = mustFun(t, w.Arena, fun("d", w.u))
	w.p = mustFun(t, w.Arena, fun("p", boolean))
	// A number comes first, so that places of terms aren't those of their functions.
	w.N = must(t, w.Arena, number("7"))
	w.X, w.Y = must(t, w.Arena, app(w.x)), must(t, w.Arena, app(w.y))
	w.C, w.D = must(t, w.Arena, app(w.c)), must(t, w.Arena, app(w.d))
	w.P = must(t, w.Arena, app(w.p))
	return w
}

// ledger is an arena of another kind: lists, which are gone through each time.
type ledger struct {
	most  int
	sorts []api.Sort
	funs  []api.Fun
	terms []api.Term
	of    []int
}

func newLedger(most int) *ledger {
	return &ledger{most: most, sorts: []api.Sort{{Name: "Bool"}, {Name: "Int"}}}
}

func sameSort(x, y api.Sort) bool { return x.Name == y.Name && slices.Equal(x.Args, y.Args) }

func sameFun(x, y api.Fun) bool {
	return x.Name == y.Name && slices.Equal(x.Args, y.Args) && x.Result == y.Result
}

func sameTerm(x, y api.Term) bool {
	return x.Op == y.Op && x.Fun == y.Fun && x.Num == y.Num && slices.Equal(x.Kids, y.Kids)
}

func within(places []int, n int) bool {
	return !slices.ContainsFunc(places, func(place int) bool { return place < 0 || place >= n })
}

func (l *ledger) sort(name string, args []int) (int, api.Errno) {
	if !within(args, len(l.sorts)) {
		return 0, api.ErrRange
	}
	s := api.Sort{Name: name, Args: slices.Clone(args)}
	place := slices.IndexFunc(l.sorts, func(x api.Sort) bool { return sameSort(x, s) })
	if place < 0 {
		place = len(l.sorts)
		l.sorts = append(l.sorts, s)
	}
	return place, api.OK
}

func (l *ledger) fun(f api.Fun) (int, api.Errno) {
	if !within(f.Args, len(l.sorts)) || !within([]int{f.Result}, len(l.sorts)) {
		return 0, api.ErrRange
	}
	f.Args = slices.Clone(f.Args)
	l.funs = append(l.funs, f)
	return len(l.funs) - 1, api.OK
}

// copy lets a ledger be what an arena has, without memory of it.
func (l *ledger) copy(a *dag.Arena) {
	l.sorts, l.funs = a.Sorts(), a.Funs()
	for i := range l.sorts {
		l.sorts[i].Args = append([]int(nil), l.sorts[i].Args...)
	}
	for i := range l.funs {
		l.funs[i].Args = append([]int(nil), l.funs[i].Args...)
	}
	l.sorts, l.funs = append([]api.Sort(nil), l.sorts...), append([]api.Fun(nil), l.funs...)
	for i := range a.Len() {
		x, _ := a.At(i)
		x.Kids = append([]int(nil), x.Kids...)
		l.terms, l.of = append(l.terms, x), append(l.of, a.Of(i))
	}
}

// kinds tells of each operator its kids' sorts, and its own: B is Bool, I is Int, s is one sort whatever it is, and * that the one ahead may come again and again.
func kinds() map[int][2]string {
	return map[int][2]string{
		api.OpTrue: {"", "B"}, api.OpFalse: {"", "B"}, api.OpNumber: {"", "I"},
		api.OpNot: {"B", "B"}, api.OpAnd: {"BB*", "B"}, api.OpOr: {"BB*", "B"}, api.OpXor: {"BB*", "B"}, api.OpImplies: {"BB*", "B"},
		api.OpIte: {"Bss", "s"}, api.OpEqual: {"ss*", "B"}, api.OpDistinct: {"ss*", "B"},
		api.OpAtMost: {"II*", "B"}, api.OpLess: {"II*", "B"}, api.OpAtLeast: {"II*", "B"}, api.OpGreater: {"II*", "B"},
		api.OpAdd: {"II*", "I"}, api.OpSub: {"I*", "I"}, api.OpMul: {"II*", "I"},
	}
}

// fit gives a term's sort by its operator's kind, or what is wrong with it.
func (l *ledger) fit(x api.Term) (int, api.Errno) {
	kind := kinds()[x.Op]
	wants, again := kind[0], false
	if n := len(wants); n > 0 && wants[n-1] == '*' {
		wants, again = wants[:n-1], true
	}
	if len(x.Kids) < len(wants) || len(x.Kids) > len(wants) && !again {
		return 0, api.ErrCount
	}
	one := map[byte]int{'B': boolean, 'I': integer}
	for i, kid := range x.Kids {
		want := wants[min(i, len(wants)-1)]
		if sort, told := one[want]; told && sort != l.of[kid] {
			return 0, api.ErrSort
		}
		one[want] = l.of[kid]
	}
	return one[kind[1][0]], api.OK
}

// fitApp gives the sort of a function over terms, or what is wrong with it.
func (l *ledger) fitApp(x api.Term) (int, api.Errno) {
	f := l.funs[x.Fun]
	if len(x.Kids) != len(f.Args) {
		return 0, api.ErrCount
	}
	for i, kid := range x.Kids {
		if l.of[kid] != f.Args[i] {
			return 0, api.ErrSort
		}
	}
	return f.Result, api.OK
}

// digits tells whether a text is a number's by reading it.
func digits(s string) bool {
	n, ok := new(big.Int).SetString(s, 10)
	return ok && len(s) <= 10000 && n.String() == s && n.Sign() >= 0
}

func (l *ledger) constant(place int) bool {
	for {
		x := l.terms[place]
		if x.Op != api.OpSub || len(x.Kids) != 1 {
			return x.Op == api.OpNumber
		}
		place = x.Kids[0]
	}
}

// linear tells whether at most one of some terms isn't constant.
func (l *ledger) linear(kids []int) bool {
	rest := slices.DeleteFunc(slices.Clone(kids), l.constant)
	return len(rest) <= 1
}

// check gives a term's sort, or the first thing that is wrong with it.
func (l *ledger) check(x api.Term) (sort int, wrong api.Errno) {
	isApp, isNumber := x.Op == api.OpApp, x.Op == api.OpNumber
	if x.Op < 1 || x.Op > 19 || !isApp && x.Fun != 0 || !isNumber && x.Num != "" || isNumber && !digits(x.Num) {
		return 0, api.ErrArg
	}
	if isApp && !within([]int{x.Fun}, len(l.funs)) || !within(x.Kids, len(l.terms)) {
		return 0, api.ErrRange
	}
	if isApp {
		sort, wrong = l.fitApp(x)
	} else {
		sort, wrong = l.fit(x)
	}
	if wrong == api.OK && x.Op == api.OpMul && !l.linear(x.Kids) {
		wrong = api.ErrLine
	}
	return sort, wrong
}

func (l *ledger) term(x api.Term) (int, api.Errno) {
	sort, wrong := l.check(x)
	if wrong != api.OK {
		return 0, wrong
	}
	if place := slices.IndexFunc(l.terms, func(y api.Term) bool { return sameTerm(x, y) }); place >= 0 {
		return place, api.OK
	}
	if len(l.terms) >= l.most {
		return 0, api.ErrLimit
	}
	x.Kids = slices.Clone(x.Kids)
	l.terms, l.of = append(l.terms, x), append(l.of, sort)
	return len(l.terms) - 1, api.OK
}

// hashOf reckons a hash by integers without end.
func hashOf(x api.Term) uint64 {
	end := new(big.Int).Lsh(big.NewInt(1), 64)
	times, _ := new(big.Int).SetString("100000001B3", 16)
	hash, _ := new(big.Int).SetString("CBF29CE484222325", 16)
	list := append([]int{x.Op, x.Fun, len(x.Kids)}, x.Kids...)
	for _, c := range []byte(x.Num) {
		list = append(list, int(c))
	}
	for _, n := range list {
		low := new(big.Int).Mod(big.NewInt(int64(n)), end)
		hash.Mod(hash.Mul(hash.Xor(hash, low), times), end)
	}
	return hash.Uint64()
}

// buckets gives the places of the terms by their hashes.
func (l *ledger) buckets() [][]int {
	many := 16
	for many < len(l.terms) {
		many *= 2
	}
	lists := make([][]int, many)
	for place, x := range l.terms {
		at := hashOf(x) % uint64(many)
		lists[at] = append(lists[at], place)
	}
	return lists
}

// expect holds an arena against what it is to have.
func (l *ledger) expect(t *testing.T, a *dag.Arena) {
	t.Helper()
	if got := a.Sorts(); !slices.EqualFunc(got, l.sorts, sameSort) {
		t.Fatalf("the sorts %v, not %v", got, l.sorts)
	}
	if got := a.Funs(); !slices.EqualFunc(got, l.funs, sameFun) {
		t.Fatalf("the functions %v, not %v", got, l.funs)
	}
	if got := a.Len(); got != len(l.terms) {
		t.Fatalf("%d terms, not %d", got, len(l.terms))
	}
	for place, want := range l.terms {
		got, ok := a.At(place)
		if !ok || !sameTerm(got, want) || a.Of(place) != l.of[place] || a.Constant(place) != l.constant(place) {
			t.Fatalf("at %d: %v, %v of %d, constant %v, not %v of %d", place, got, ok, a.Of(place), a.Constant(place), want, l.of[place])
		}
	}
	if got, want := a.Buckets(), l.buckets(); !slices.EqualFunc(got, want, slices.Equal[[]int]) {
		t.Fatalf("the buckets %v, not %v", got, want)
	}
}

// randomPlace gives the place of one of n, or, now and then, another one.
func randomPlace(r *rand.Rand, n int) int {
	if n == 0 || r.Intn(50) == 0 {
		others := strangers(n)
		return others[r.Intn(len(others))]
	}
	return r.Intn(n)
}

func randomPlaces(r *rand.Rand, most, n int) []int {
	var list []int
	for range r.Intn(most + 1) {
		list = append(list, randomPlace(r, n))
	}
	return list
}

// randomInts gives the places of some Ints that there are.
func (l *ledger) randomInts(r *rand.Rand) []int {
	var list []int
	for range r.Intn(20) {
		place := randomPlace(r, len(l.terms))
		if within([]int{place}, len(l.terms)) && l.of[place] == integer {
			list = append(list, place)
		}
	}
	return list[:min(len(list), 3)]
}

// randomTerm gives a term of any kind, many of which may be.
func (l *ledger) randomTerm(r *rand.Rand) api.Term {
	if r.Intn(8) == 0 {
		return op(api.OpMul, l.randomInts(r)...)
	}
	texts := []string{"", "0", "1", "7", "10", "12", "007", "00", "-1", "x", "1x", " 1"}
	x := api.Term{Op: r.Intn(21), Kids: randomPlaces(r, 3, len(l.terms))}
	switch {
	case x.Op == api.OpNumber:
		x.Num = texts[r.Intn(len(texts))]
	case x.Op == api.OpApp:
		x.Fun = randomPlace(r, len(l.funs))
	case r.Intn(50) == 0:
		x.Fun = randomPlace(r, 3)
	}
	if x.Op <= api.OpNumber && r.Intn(4) > 0 {
		x.Kids = nil
	}
	if r.Intn(60) == 0 {
		x.Num = texts[r.Intn(len(texts))]
	}
	return x
}
