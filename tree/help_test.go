package tree_test

import (
	"math/rand"
	"reflect"
	"strings"
	"testing"

	"collator/api"
	"collator/token"
)

const most = 1<<63 - 1

func tok(kind int, text string, at int) api.Token { return api.Token{Kind: kind, Text: text, At: at} }

func fault(code api.Errno, at int) api.Fault { return api.Fault{Code: code, At: at} }

// leaf gives a tree that is a token.
func leaf(kind int, text string, at int) api.Tree { return api.Tree{Tok: tok(kind, text, at)} }

// sym gives a tree that is a symbol.
func sym(text string, at int) api.Tree { return leaf(api.TokSymbol, text, at) }

// list gives a tree that is a list of these.
func list(at int, kids ...api.Tree) api.Tree {
	return api.Tree{List: true, Tok: tok(api.TokOpen, "(", at), Kids: kids}
}

// tokens gives a text's tokens, which must be right.
func tokens(t *testing.T, text string) []api.Token {
	t.Helper()
	l, wrong := token.Read([]byte(text), len(text))
	if wrong != (api.Fault{}) {
		t.Fatalf("%q: the fault %v", text, wrong)
	}
	return l
}

// same tells whether trees are the same; a nil list is one without elements.
func same(a, b []api.Tree) bool {
	if len(a) != len(b) {
		return false
	}
	for i := range a {
		if a[i].List != b[i].List || a[i].Tok != b[i].Tok || !same(a[i].Kids, b[i].Kids) {
			return false
		}
	}
	return true
}

// firstFault tells the first fault of tokens by counts of parentheses alone.
func firstFault(l []api.Token, deep int) api.Fault {
	open := 0
	for _, t := range l {
		if t.Kind == api.TokOpen {
			if open >= deep || deep < 0 {
				return fault(api.ErrLimit, t.At)
			}
			open++
		}
		if t.Kind == api.TokClose {
			if open == 0 {
				return fault(api.ErrParen, t.At)
			}
			open--
		}
	}
	closed := 0
	for i := len(l) - 1; i >= 0 && open > 0; i-- {
		switch {
		case l[i].Kind == api.TokClose:
			closed++
		case l[i].Kind == api.TokOpen && closed > 0:
			closed--
		case l[i].Kind == api.TokOpen:
			return fault(api.ErrParen, l[i].At)
		}
	}
	return api.Fault{}
}

// grow gives the trees of tokens without a fault, up to a TokClose or the end, by calls of itself; and the tokens behind.
func grow(l []api.Token) ([]api.Tree, []api.Token) {
	var trees []api.Tree
	for len(l) > 0 {
		t := l[0]
		l = l[1:]
		switch t.Kind {
		case api.TokClose:
			return trees, l
		case api.TokOpen:
			var kids []api.Tree
			kids, l = grow(l)
			trees = append(trees, api.Tree{List: true, Tok: t, Kids: kids})
		default:
			trees = append(trees, api.Tree{Tok: t})
		}
	}
	return trees, nil
}

// byCalls gives what Read must answer, in another way.
func byCalls(l []api.Token, deep int) ([]api.Tree, api.Fault) {
	if wrong := firstFault(l, deep); wrong != (api.Fault{}) {
		return nil, wrong
	}
	trees, _ := grow(l)
	return trees, api.Fault{}
}

// leaves are tokens that are no parentheses, with what layer 4's Word tells of them; an empty text: nothing.
func leaves() []struct {
	tok  api.Token
	word string
} {
	return []struct {
		tok  api.Token
		word string
	}{
		{tok(api.TokSymbol, "x", 0), "x"}, {tok(api.TokSymbol, "a b", 0), "|a b|"}, {tok(api.TokSymbol, "", 0), "||"}, {tok(api.TokSymbol, "let", 0), "|let|"}, {tok(api.TokSymbol, "(", 0), "|(|"},
		{tok(api.TokReserved, "let", 0), "let"}, {tok(api.TokNumeral, "12", 0), "12"}, {tok(api.TokDecimal, "1.50", 0), "1.50"}, {tok(api.TokHex, "1F", 0), "#x1F"}, {tok(api.TokBinary, "01", 0), "#b01"},
		{tok(api.TokString, `a"(`, 0), `"a""("`}, {tok(api.TokKeyword, "named", 0), ":named"},
		{tok(api.TokSymbol, "a|b", 0), ""}, {tok(api.TokReserved, "x", 0), ""}, {tok(api.TokNumeral, "01", 0), ""}, {tok(api.TokHex, "", 0), ""}, {tok(api.TokString, "\x00", 0), ""}, {tok(0, "x", 0), ""}, {tok(11, "x", 0), ""}, {tok(-1, "", 0), ""},
	}
}

// randomTokens gives tokens of all kinds, many of them parentheses, whose places are any.
func randomTokens(r *rand.Rand) []api.Token {
	var l []api.Token
	words := leaves()
	for range r.Intn(14) {
		at := r.Intn(1000) - 300
		switch r.Intn(5) {
		case 0, 1:
			l = append(l, tok(api.TokOpen, "(", at))
		case 2, 3:
			l = append(l, tok(api.TokClose, ")", at))
		default:
			t := words[r.Intn(len(words))].tok
			t.At = at
			l = append(l, t)
		}
	}
	return l
}

// randomTree gives a tree of so many lists within one another at most, its text, whether it has one, and its size.
func randomTree(r *rand.Rand, deep int) (api.Tree, string, bool, int) {
	if deep == 0 || r.Intn(3) == 0 {
		words := leaves()
		n := len(words)
		if r.Intn(4) > 0 {
			n = 12
		}
		w := words[r.Intn(n)]
		return api.Tree{Tok: w.tok}, w.word, w.word != "", 1
	}
	t := list(r.Intn(9))
	var texts []string
	can, size := true, 2
	for range r.Intn(4) {
		kid, text, ok, n := randomTree(r, deep-1)
		t.Kids = append(t.Kids, kid)
		texts = append(texts, text)
		can = can && ok
		size += n
	}
	return t, "(" + strings.Join(texts, " ") + ")", can, size
}

// equal tells whether two values are the same in all, nil lists apart from empty ones.
func equal(a, b any) bool { return reflect.DeepEqual(a, b) }
