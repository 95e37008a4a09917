package tree_test

import (
	"math"
	"math/rand"
	"slices"
	"strings"
	"testing"

	"collator/api"
	"collator/token"
	"collator/tree"
)

// P1: no call panics, whatever kinds and limits come.
func TestNothingPanics(t *testing.T) {
	for _, kind := range []int{math.MinInt, -1, 0, 1, 2, 3, 4, 5, 6, 7, 8, 9, 10, 11, math.MaxInt} {
		for _, deep := range []int{math.MinInt, -1, 0, 1, math.MaxInt} {
			tree.Read([]api.Token{tok(kind, "x", math.MinInt), tok(kind, "", math.MaxInt)}, deep)
		}
		for _, flag := range []bool{false, true} {
			x := api.Tree{List: flag, Tok: tok(kind, "x\xff", 0), Kids: make([]api.Tree, 2)}
			tree.Text(x)
			tree.Size(x)
		}
	}
	tree.Read(nil, math.MinInt)
	tree.Text(api.Tree{})
	tree.Size(api.Tree{})
}

// P2: the same calls give the same answers, whatever was read between.
func TestAnswersHangOnArgumentsAlone(t *testing.T) {
	r := rand.New(rand.NewSource(1))
	for range 500 {
		l, deep := randomTokens(r), r.Intn(5)
		first, wrong := tree.Read(l, deep)
		tree.Read(randomTokens(r), r.Intn(5))
		if second, fault := tree.Read(l, deep); fault != wrong || !same(first, second) {
			t.Fatalf("%v: %v, %v, and then %v, %v", l, first, wrong, second, fault)
		}
		for _, x := range first {
			text, ok := tree.Text(x)
			if again, can := tree.Text(x); again != text || can != ok || tree.Size(x) != tree.Size(x) {
				t.Fatalf("%v has two texts, or two sizes", x)
			}
		}
	}
}

// P5.1: trees, in order.
func TestRead(t *testing.T) {
	for _, c := range []struct {
		text string
		want []api.Tree
	}{
		{"", nil},
		{"x", []api.Tree{sym("x", 0)}},
		{"x y", []api.Tree{sym("x", 0), sym("y", 2)}},
		{"()", []api.Tree{list(0)}},
		{"()()", []api.Tree{list(0), list(2)}},
		{"(())", []api.Tree{list(0, list(1))}},
		{"(x ())", []api.Tree{list(0, sym("x", 1), list(3))}},
		{"(() x)", []api.Tree{list(0, list(1), sym("x", 4))}},
		{"a (b (c) d) e", []api.Tree{sym("a", 0), list(2, sym("b", 3), list(5, sym("c", 6)), sym("d", 9)), sym("e", 12)}},
		{"|(| \")\" :k", []api.Tree{sym("(", 0), leaf(api.TokString, ")", 4), leaf(api.TokKeyword, "k", 8)}},
		{"(let 12 1.5 #xA #b1)", []api.Tree{list(0, leaf(api.TokReserved, "let", 1), leaf(api.TokNumeral, "12", 5), leaf(api.TokDecimal, "1.5", 8), leaf(api.TokHex, "A", 12), leaf(api.TokBinary, "1", 16))}},
	} {
		if got, wrong := tree.Read(tokens(t, c.text), 9); wrong != (api.Fault{}) || !same(got, c.want) {
			t.Errorf("%q: %v, %v, not %v", c.text, got, wrong, c.want)
		}
	}
}

// P5.1: by its kind alone a token is a parenthesis; a list keeps the token that opens it.
func TestReadByKind(t *testing.T) {
	l := []api.Token{tok(api.TokOpen, "odd", 7), tok(0, "(", -3), tok(11, ")", 5), tok(-1, "", 0), tok(math.MaxInt, "(", 1), tok(api.TokSymbol, ")", 2), tok(api.TokClose, "", 2)}
	want := []api.Tree{{List: true, Tok: l[0], Kids: []api.Tree{{Tok: l[1]}, {Tok: l[2]}, {Tok: l[3]}, {Tok: l[4]}, {Tok: l[5]}}}}
	if got, wrong := tree.Read(l, 1); wrong != (api.Fault{}) || !same(got, want) {
		t.Errorf("%v, %v, not %v", got, wrong, want)
	}
}

// P5.1: the first fault, and nothing beside it.
func TestReadFaults(t *testing.T) {
	for _, c := range []struct {
		text string
		deep int
		want api.Fault
	}{
		{")", 9, fault(api.ErrParen, 0)}, {"x )", 9, fault(api.ErrParen, 2)}, {"())", 9, fault(api.ErrParen, 2)}, {"(x) ) (", 9, fault(api.ErrParen, 4)}, {") (", 9, fault(api.ErrParen, 0)},
		{"(", 9, fault(api.ErrParen, 0)}, {"( (", 9, fault(api.ErrParen, 2)}, {"( ()", 9, fault(api.ErrParen, 0)}, {"(() (", 9, fault(api.ErrParen, 4)}, {"( ( () x", 9, fault(api.ErrParen, 2)}, {"x (y (z)", 9, fault(api.ErrParen, 2)}, {"() (", 9, fault(api.ErrParen, 3)},
		{"()", 0, fault(api.ErrLimit, 0)}, {" ()", -1, fault(api.ErrLimit, 1)}, {"x ()", math.MinInt, fault(api.ErrLimit, 2)}, {"(())", 1, fault(api.ErrLimit, 1)}, {"((()))", 2, fault(api.ErrLimit, 2)}, {"(() (()))", 2, fault(api.ErrLimit, 5)}, {"()() (())", 1, fault(api.ErrLimit, 6)},
		// Token by token: what is wrong first is told.
		{")()", 0, fault(api.ErrParen, 0)}, {"()) ((", 1, fault(api.ErrParen, 2)}, {"((", 1, fault(api.ErrLimit, 1)}, {"(() ((", 2, fault(api.ErrLimit, 5)}, {"(()))", 1, fault(api.ErrLimit, 1)}, {"(", 0, fault(api.ErrLimit, 0)},
	} {
		got, wrong := tree.Read(tokens(t, c.text), c.deep)
		if wrong != c.want || got != nil {
			t.Errorf("%q, %d: %v, %v, not %v", c.text, c.deep, got, wrong, c.want)
		}
	}
}

// P5.1: as deep as is told, and no deeper.
func TestReadLimit(t *testing.T) {
	for deep := -2; deep < 40; deep++ {
		for n := range 42 {
			text := "x " + strings.Repeat("(", n) + strings.Repeat(")", n) + "()"
			want := api.Fault{}
			if n > max(deep, 0) {
				want = fault(api.ErrLimit, 2+max(deep, 0))
			} else if deep <= 0 {
				want = fault(api.ErrLimit, 2+2*n)
			}
			if _, wrong := tree.Read(tokens(t, text), deep); wrong != want {
				t.Errorf("%q, %d: %v, not %v", text, deep, wrong, want)
			}
		}
	}
	if l, wrong := tree.Read(tokens(t, "x y"), -5); wrong != (api.Fault{}) || len(l) != 2 {
		t.Error("tokens without lists have no limit", l, wrong)
	}
}

// P5.1: all short lists of tokens, under each limit, against what calls of themselves tell.
func TestReadShortLists(t *testing.T) {
	var grown func(l []api.Token, left int)
	grown = func(l []api.Token, left int) {
		for deep := -1; deep <= 4; deep++ {
			got, wrong := tree.Read(l, deep)
			if want, first := byCalls(l, deep); wrong != first || !same(got, want) {
				t.Fatalf("%v, %d: %v, %v, not %v, %v", l, deep, got, wrong, want, first)
			}
		}
		if left == 0 {
			return
		}
		for _, next := range []api.Token{tok(api.TokOpen, "(", len(l)+5), tok(api.TokClose, ")", len(l)+5), tok(api.TokSymbol, "x", len(l)+5)} {
			grown(append(slices.Clone(l), next), left-1)
		}
	}
	grown(nil, 8)
}

// P5.1: lists of tokens of all kinds, against what calls of themselves tell.
func TestReadRandom(t *testing.T) {
	r := rand.New(rand.NewSource(2))
	for range 50000 {
		l, deep := randomTokens(r), r.Intn(8)-1
		got, wrong := tree.Read(l, deep)
		if want, first := byCalls(l, deep); wrong != first || !same(got, want) {
			t.Fatalf("%v, %d: %v, %v, not %v, %v", l, deep, got, wrong, want, first)
		}
	}
}

// P5.2: texts.
func TestText(t *testing.T) {
	for _, c := range []struct {
		tree api.Tree
		want string
	}{
		{list(0, sym("x", 1), list(3)), "(x ())"},
		{list(0), "()"}, {list(0, list(0)), "(())"}, {list(0, list(0), list(0)), "(() ())"},
		{list(0, list(0), sym("x", 0)), "(() x)"}, {list(0, sym("x", 0)), "(x)"}, {list(0, sym("x", 0), sym("y", 0), sym("z", 0)), "(x y z)"},
		{list(9, list(9, list(9), sym("a b", 9)), leaf(api.TokNumeral, "0", 9)), "((() |a b|) 0)"},
		{list(0, leaf(api.TokString, " ", 0), leaf(api.TokKeyword, "k", 0)), `(" " :k)`},
		{sym("", 0), "||"}, {sym("let", 0), "|let|"}, {sym("(", 4), "|(|"},
		// A list is a list, whatever its token; a token has no kids.
		{api.Tree{List: true}, "()"}, {api.Tree{List: true, Tok: tok(api.TokSymbol, "a|b", 0), Kids: []api.Tree{sym("x", 0)}}, "(x)"},
		{api.Tree{Tok: tok(api.TokSymbol, "x", 0), Kids: []api.Tree{sym("y", 0), leaf(0, "", 0)}}, "x"},
	} {
		if got, ok := tree.Text(c.tree); got != c.want || !ok {
			t.Errorf("%v: %q, %v, not %q", c.tree, got, ok, c.want)
		}
	}
}

// P5.2: of a token it is layer 4's Word, of each kind.
func TestTextOfTokens(t *testing.T) {
	for _, c := range leaves() {
		for _, at := range []int{math.MinInt, 0, 12} {
			x := c.tok
			x.At = at
			word, can := token.Word(x)
			if got, ok := tree.Text(api.Tree{Tok: x}); got != c.word || ok != (c.word != "") || got != word || ok != can {
				t.Errorf("%v: %q, %v, not %q", x, got, ok, c.word)
			}
		}
	}
}

// P5.2: a part without a text, a parenthesis as a token too, leaves nothing.
func TestTextOfNone(t *testing.T) {
	for _, bad := range []api.Tree{leaf(api.TokOpen, "(", 0), leaf(api.TokClose, ")", 0), leaf(0, "x", 0), {}, leaf(11, "x", 0), leaf(api.TokNumeral, "01", 0), leaf(api.TokReserved, "x", 0), sym("a|b", 0), leaf(api.TokKeyword, "", 0)} {
		for _, x := range []api.Tree{bad, list(0, bad), list(0, sym("x", 0), bad), list(0, bad, sym("x", 0)), list(0, list(0, list(0, bad)), sym("x", 0)), list(0, sym("x", 0), list(0), list(0, sym("y", 0), bad))} {
			if got, ok := tree.Text(x); got != "" || ok {
				t.Errorf("%v: %q, %v", x, got, ok)
			}
		}
	}
}

// P5.2: sizes.
func TestSize(t *testing.T) {
	for _, c := range []struct {
		tree api.Tree
		want int
	}{
		{sym("x", 0), 1}, {leaf(api.TokOpen, "(", 0), 1}, {leaf(0, "", 0), 1}, {api.Tree{}, 1},
		{api.Tree{Kids: []api.Tree{sym("x", 0)}}, 1},
		{list(0), 2}, {api.Tree{List: true}, 2}, {list(0, sym("x", 0)), 3}, {list(0, list(0)), 4}, {list(0, sym("x", 1), list(3)), 5},
		{list(0, leaf(api.TokClose, ")", 0), sym("a|b", 0)), 4},
		{list(0, list(0, sym("x", 0)), list(0), sym("y", 0)), 8},
	} {
		if got := tree.Size(c.tree); got != c.want {
			t.Errorf("%v: %d, not %d", c.tree, got, c.want)
		}
	}
}

// P5.2: trees of all kinds.
func TestTextAndSizeRandom(t *testing.T) {
	r := rand.New(rand.NewSource(3))
	for range 20000 {
		x, text, can, size := randomTree(r, 5)
		if !can {
			text = ""
		}
		if got, ok := tree.Text(x); got != text || ok != can {
			t.Fatalf("%v: %q, %v, not %q, %v", x, got, ok, text, can)
		}
		if got := tree.Size(x); got != size {
			t.Fatalf("%v: %d, not %d", x, got, size)
		}
	}
}

// P5.1, P5.2: a tree's text reads as it, but for the places; its size is how many tokens it has.
func TestTextIsRead(t *testing.T) {
	r := rand.New(rand.NewSource(4))
	for range 5000 {
		x, _, can, size := randomTree(r, 5)
		if !can {
			continue
		}
		text, _ := tree.Text(x)
		l := tokens(t, text)
		got, wrong := tree.Read(l, 5)
		if wrong != (api.Fault{}) || len(got) != 1 || len(l) != size {
			t.Fatalf("%q: %v, %v", text, got, wrong)
		}
		if again, ok := tree.Text(got[0]); again != text || !ok {
			t.Fatalf("%q became %q", text, again)
		}
	}
}

// P1, P5.1, P5.2: very deep, and very wide.
func TestLongAndDeep(t *testing.T) {
	const n = 1 << 21
	deep := make([]api.Token, 0, 2*n+1)
	for i := range n {
		deep = append(deep, tok(api.TokOpen, "(", i))
	}
	if l, wrong := tree.Read(deep, most); l != nil || wrong != fault(api.ErrParen, n-1) {
		t.Errorf("%d trees, %v", len(l), wrong)
	}
	if l, wrong := tree.Read(deep, n-1); l != nil || wrong != fault(api.ErrLimit, n-1) {
		t.Errorf("%d trees, %v", len(l), wrong)
	}
	deep = append(deep, tok(api.TokSymbol, "x", n))
	for i := range n {
		deep = append(deep, tok(api.TokClose, ")", n+1+i))
	}
	l, wrong := tree.Read(deep, n)
	if wrong != (api.Fault{}) || len(l) != 1 {
		t.Fatalf("%d trees, %v", len(l), wrong)
	}
	if size := tree.Size(l[0]); size != 2*n+1 {
		t.Errorf("the size %d", size)
	}
	if text, ok := tree.Text(l[0]); !ok || text != strings.Repeat("(", n)+"x"+strings.Repeat(")", n) {
		t.Errorf("a text of %d bytes", len(text))
	}
	wide := list(0, make([]api.Tree, n)...)
	for i := range wide.Kids {
		wide.Kids[i] = sym("x", i)
	}
	if text, ok := tree.Text(wide); !ok || text != "("+strings.Repeat("x ", n-1)+"x)" || tree.Size(wide) != n+2 {
		t.Errorf("a text of %d bytes", len(text))
	}
}

// Rule 4: nothing is changed, nothing is kept, and no two lists share anything.
func TestNothingIsShared(t *testing.T) {
	l := tokens(t, "(a (b) (c d) ()) e ((f) g)")
	elder := slices.Clone(l)
	first, _ := tree.Read(l, 9)
	second, _ := tree.Read(l, 9)
	if !slices.Equal(l, elder) {
		t.Errorf("the tokens became %v", l)
	}
	clear(l)
	var spoil func(trees []api.Tree)
	spoil = func(trees []api.Tree) {
		for i := range trees {
			spoil(trees[i].Kids)
			// What is laid behind a list must not come into another one.
			_ = append(trees[i].Kids, sym("spoilt", 0))
			trees[i] = sym("spoilt", 0)
		}
	}
	for i := range first {
		_ = append(first[i].Kids, sym("spoilt", 0))
		for k := range first[i].Kids {
			_ = append(first[i].Kids[k].Kids, sym("spoilt", 0))
		}
	}
	spoil(second)
	want, _ := grow(elder)
	if !same(first, want) {
		t.Errorf("the trees became %v", first)
	}
	x := list(1, sym("a", 2), list(3, sym("b", 4)))
	tree.Text(x)
	tree.Size(x)
	if !equal(x, list(1, sym("a", 2), list(3, sym("b", 4)))) {
		t.Errorf("the tree became %v", x)
	}
}
