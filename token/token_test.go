package token_test

import (
	"bytes"
	"math"
	"math/rand"
	"slices"
	"strings"
	"testing"

	"collator/api"
	"collator/token"
)

// P1: no call panics, whatever bytes, limits and tokens come.
func TestNothingPanics(t *testing.T) {
	for i := range 1 << 16 {
		text := []byte{byte(i >> 8), byte(i)}
		for _, most := range []int{math.MinInt, -1, 0, 1, 2, 3, math.MaxInt} {
			token.Read(text, most)
		}
	}
	for _, kind := range kinds() {
		for i := range 256 {
			for _, text := range []string{"", string([]byte{byte(i)}), string([]byte{'a', byte(i)})} {
				token.Word(api.Token{Kind: kind, Text: text, At: math.MinInt})
			}
		}
	}
}

// P2: the same calls give the same answers, whatever was read between.
func TestAnswersHangOnArgumentsAlone(t *testing.T) {
	r := rand.New(rand.NewSource(1))
	for range 300 {
		text := random(r)
		first, wrong := token.Read([]byte(text), len(text))
		token.Read([]byte(random(r)), 100)
		if second, fault := token.Read([]byte(text), len(text)); fault != wrong || !slices.Equal(first, second) {
			t.Fatalf("%q: %v, %v, then %v, %v", text, first, wrong, second, fault)
		}
	}
}

// P4.1: tokens of each kind, and what is between them.
func TestRead(t *testing.T) {
	for _, c := range []struct {
		text string
		want []api.Token
	}{
		{"", nil}, {" \t\r\n", nil}, {";", nil}, {"; é \x00 \" |", nil}, {";a\n;b\r\n", nil}, {";;\n", nil},
		{"(f #x1F |a b|)", []api.Token{tok(api.TokOpen, "(", 0), tok(api.TokSymbol, "f", 1), tok(api.TokHex, "1F", 3), tok(api.TokSymbol, "a b", 8), tok(api.TokClose, ")", 13)}},
		{"()", []api.Token{tok(api.TokOpen, "(", 0), tok(api.TokClose, ")", 1)}},
		{")", []api.Token{tok(api.TokClose, ")", 0)}},
		{"a;b\nc;", []api.Token{tok(api.TokSymbol, "a", 0), tok(api.TokSymbol, "c", 4)}},
		{"a;b\rc", []api.Token{tok(api.TokSymbol, "a", 0)}},
		{"\r\n a\tb ", []api.Token{tok(api.TokSymbol, "a", 3), tok(api.TokSymbol, "b", 5)}},
		{"0", []api.Token{tok(api.TokNumeral, "0", 0)}},
		{"1234567890123456789012", []api.Token{tok(api.TokNumeral, "1234567890123456789012", 0)}},
		{"10 9", []api.Token{tok(api.TokNumeral, "10", 0), tok(api.TokNumeral, "9", 3)}},
		{"0.0 0.50 10.05", []api.Token{tok(api.TokDecimal, "0.0", 0), tok(api.TokDecimal, "0.50", 4), tok(api.TokDecimal, "10.05", 9)}},
		{"#x0 #xaBcDeF09", []api.Token{tok(api.TokHex, "0", 0), tok(api.TokHex, "aBcDeF09", 4)}},
		{"#b0 #b0110", []api.Token{tok(api.TokBinary, "0", 0), tok(api.TokBinary, "0110", 4)}},
		{`"" "a" "a""b" """" """a"""`, []api.Token{tok(api.TokString, "", 0), tok(api.TokString, "a", 3), tok(api.TokString, `a"b`, 7), tok(api.TokString, `"`, 14), tok(api.TokString, `"a"`, 19)}},
		{"\"\t\n\r ;|\\(~\"", []api.Token{tok(api.TokString, "\t\n\r ;|\\(~", 0)}},
		{`"a" "b"`, []api.Token{tok(api.TokString, "a", 0), tok(api.TokString, "b", 4)}},
		{":a :1 :- :let", []api.Token{tok(api.TokKeyword, "a", 0), tok(api.TokKeyword, "1", 3), tok(api.TokKeyword, "-", 6), tok(api.TokKeyword, "let", 9)}},
		{":a:b", []api.Token{tok(api.TokKeyword, "a", 0), tok(api.TokKeyword, "b", 2)}},
		{"|| |\t\n\r \"'(;~| |let| |a|", []api.Token{tok(api.TokSymbol, "", 0), tok(api.TokSymbol, "\t\n\r \"'(;~", 3), tok(api.TokSymbol, "let", 15), tok(api.TokSymbol, "a", 21)}},
		{"a1 - -1 .5 ?0", []api.Token{tok(api.TokSymbol, "a1", 0), tok(api.TokSymbol, "-", 3), tok(api.TokSymbol, "-1", 5), tok(api.TokSymbol, ".5", 8), tok(api.TokSymbol, "?0", 11)}},
		{signs, []api.Token{tok(api.TokSymbol, signs, 0)}},
		{"(let)", []api.Token{tok(api.TokOpen, "(", 0), tok(api.TokReserved, "let", 1), tok(api.TokClose, ")", 4)}},
		{"as asx As", []api.Token{tok(api.TokReserved, "as", 0), tok(api.TokSymbol, "asx", 3), tok(api.TokSymbol, "As", 7)}},
		{"assert Bool Int true", []api.Token{tok(api.TokSymbol, "assert", 0), tok(api.TokSymbol, "Bool", 7), tok(api.TokSymbol, "Int", 12), tok(api.TokSymbol, "true", 16)}},
	} {
		if got := read(t, c.text); !slices.Equal(got, c.want) {
			t.Errorf("%q: %v, not %v", c.text, got, c.want)
		}
	}
}

// P4.1: tokens without a blank between them.
func TestReadClose(t *testing.T) {
	for _, c := range []struct {
		text string
		want []api.Token
	}{
		{`1"a"`, []api.Token{tok(api.TokNumeral, "1", 0), tok(api.TokString, "a", 1)}},
		{"1:a", []api.Token{tok(api.TokNumeral, "1", 0), tok(api.TokKeyword, "a", 1)}},
		{"1.5#b1", []api.Token{tok(api.TokDecimal, "1.5", 0), tok(api.TokBinary, "1", 3)}},
		{"#xAf#x1", []api.Token{tok(api.TokHex, "Af", 0), tok(api.TokHex, "1", 4)}},
		{"#b1|a|", []api.Token{tok(api.TokBinary, "1", 0), tok(api.TokSymbol, "a", 3)}},
		{"0(", []api.Token{tok(api.TokNumeral, "0", 0), tok(api.TokOpen, "(", 1)}},
		{"0;x", []api.Token{tok(api.TokNumeral, "0", 0)}},
		{"a|b|c", []api.Token{tok(api.TokSymbol, "a", 0), tok(api.TokSymbol, "b", 1), tok(api.TokSymbol, "c", 4)}},
		{"a#x1", []api.Token{tok(api.TokSymbol, "a", 0), tok(api.TokHex, "1", 1)}},
		{`"a"b`, []api.Token{tok(api.TokString, "a", 0), tok(api.TokSymbol, "b", 3)}},
		{`"a"1`, []api.Token{tok(api.TokString, "a", 0), tok(api.TokNumeral, "1", 3)}},
		{"|a|1", []api.Token{tok(api.TokSymbol, "a", 0), tok(api.TokNumeral, "1", 3)}},
		{"|a||b|", []api.Token{tok(api.TokSymbol, "a", 0), tok(api.TokSymbol, "b", 3)}},
		{":a|b|", []api.Token{tok(api.TokKeyword, "a", 0), tok(api.TokSymbol, "b", 2)}},
		{":a\"b\"", []api.Token{tok(api.TokKeyword, "a", 0), tok(api.TokString, "b", 2)}},
	} {
		if got := read(t, c.text); !slices.Equal(got, c.want) {
			t.Errorf("%q: %v, not %v", c.text, got, c.want)
		}
	}
}

// P4.1: the reserved words, alone and with a byte more.
func TestReadReserved(t *testing.T) {
	for _, word := range reserved() {
		if got, want := read(t, word), []api.Token{{Kind: api.TokReserved, Text: word}}; !slices.Equal(got, want) {
			t.Errorf("%s: %v", word, got)
		}
		for _, longer := range []string{word + "0", word + word, "." + word, word[:len(word)-1] + "?"} {
			if got, want := read(t, longer), []api.Token{{Kind: api.TokSymbol, Text: longer}}; !slices.Equal(got, want) {
				t.Errorf("%s: %v", longer, got)
			}
		}
		if got, want := read(t, "|"+word+"|"), []api.Token{{Kind: api.TokSymbol, Text: word}}; !slices.Equal(got, want) {
			t.Errorf("|%s|: %v", word, got)
		}
	}
}

// P4.1: where the first byte is that is wrong.
func TestReadFaults(t *testing.T) {
	for _, c := range []struct {
		text string
		at   int
	}{
		{"a \x00", 2}, {"\xef\xbb\xbfa", 0}, {"(é)", 1}, {"a'", 1}, {"a,b", 1}, {"a\\b", 1}, {"[", 0}, {"{", 0}, {"`", 0}, {"a\vb", 1}, {"a\fb", 1}, {"\x7f", 0},
		{"#", 1}, {"# x", 1}, {"#X1", 1}, {"#B1", 1}, {"#1", 1}, {"##", 1}, {"a #", 3},
		{"#x", 2}, {"#x ", 2}, {"#xg", 2}, {"#x-", 2}, {"#x\xff", 2}, {"#x1g", 3}, {"#xFx", 3}, {"#x1.5", 3},
		{"#b", 2}, {"#b)", 2}, {"#b2", 2}, {"#b012", 4}, {"#b1a", 3}, {"#bx", 2},
		{":", 1}, {": a", 1}, {"::a", 1}, {":(", 1}, {":|a|", 1}, {"(:)", 2}, {":\"", 1},
		{"00", 1}, {"01", 1}, {"0123", 1}, {"00.5", 1}, {"(007", 2}, {"01x", 1},
		{"0x", 1}, {"1a", 1}, {"12_", 2}, {"1-", 1}, {"1.", 1}, {"1.a", 1}, {"1..5", 1}, {"1. 5", 1}, {"0.", 1},
		{"1.5a", 3}, {"1.5.", 3}, {"1.5.5", 3}, {"1.05e3", 4},
		{`"`, 1}, {`"a`, 2}, {`"a""`, 4}, {`"""`, 3}, {`a "b`, 4}, {"\"a\x00\"", 2}, {"\"a\x00", 2}, {"\"é\"", 1}, {"\"\x7f\"", 1}, {"\"\v\"", 1}, {"\"a\"\"\x1f\"", 4}, {`"a" "`, 5},
		{"|", 1}, {"|a", 2}, {"|a\\|", 2}, {"|a\\", 2}, {"|\x00|", 1}, {"|é|", 1}, {"|\x7f|", 1}, {"|\f|", 1}, {"|a||", 4}, {"|a\"", 3},
		{"\x00 #", 0}, {"# \x00", 1}, {"; \x00\n\x00", 4},
	} {
		refused(t, c.text, c.at)
	}
}

// P4.1: each byte alone, in a string, between two |, behind a symbol, a keyword, a number, and a ;.
func TestReadEveryByte(t *testing.T) {
	list := shapes()
	for i := range 256 {
		c := string([]byte{byte(i)})
		for _, frame := range [][2]string{
			{"", ""}, {"\"", "\""}, {"\"a", "b\""}, {"|", "|"}, {"|a", "b|"}, {"a", "b"}, {":", ""}, {":a", "b"}, {"1", ""}, {"0", ""}, {"0", "1"}, {"1", "1"},
			{"1.", ""}, {"1.5", ""}, {"#", ""}, {"#", "1"}, {"#x", ""}, {"#x1", ""}, {"#b", ""}, {"#b1", ""}, {";", "a"}, {"a;b", "c"}, {"\"a\"", "\""}, {"(", ")"}, {" ", " "},
		} {
			asShapes(t, list, frame[0]+c+frame[1])
		}
	}
}

// P4.1: all short texts, against regular expressions.
func TestReadShortTexts(t *testing.T) {
	list := shapes()
	texts("(); \n\"|:#xb01.a-\\", 4, func(text string) { asShapes(t, list, text) })
	texts("\"a\x00", 7, func(text string) { asShapes(t, list, text) })
	texts("0192.", 6, func(text string) { asShapes(t, list, text) })
}

// P4.1: texts of all kinds, against regular expressions.
func TestReadRandomTexts(t *testing.T) {
	list := shapes()
	r := rand.New(rand.NewSource(2))
	for range 20000 {
		asShapes(t, list, random(r))
	}
}

// P4.1: how many bytes a text may have.
func TestReadLimit(t *testing.T) {
	for _, c := range []struct {
		text string
		most int
		want api.Fault
	}{
		{"", math.MinInt, api.Fault{}}, {"", -1, api.Fault{}}, {"", 0, api.Fault{}},
		{"a", math.MinInt, api.Fault{Code: api.ErrLimit}}, {"a", -1, api.Fault{Code: api.ErrLimit}}, {"a", 0, api.Fault{Code: api.ErrLimit}},
		{"a", 1, api.Fault{}}, {"a", 2, api.Fault{}}, {"a", math.MaxInt, api.Fault{}},
		{"abc", 2, api.Fault{Code: api.ErrLimit, At: 2}}, {"abc", 3, api.Fault{}}, {"  ;", 2, api.Fault{Code: api.ErrLimit, At: 2}},
		// A limit that isn't kept comes ahead of a byte that is wrong.
		{"\x00ab", 2, api.Fault{Code: api.ErrLimit, At: 2}}, {"\x00", 1, api.Fault{Code: api.ErrByte}},
	} {
		tokens, fault := token.Read([]byte(c.text), c.most)
		if fault != c.want || fault.Code != api.OK && tokens != nil {
			t.Errorf("%q, %d: %v, %v, not %v", c.text, c.most, tokens, fault, c.want)
		}
	}
	if tokens, fault := token.Read(nil, 5); tokens != nil || fault != (api.Fault{}) {
		t.Error(tokens, fault)
	}
}

// P4.1: long tokens, long blanks, and many tokens.
func TestReadLong(t *testing.T) {
	const n = 1 << 18
	for _, c := range []struct {
		text string
		want api.Token
	}{
		{strings.Repeat("9", n), api.Token{Kind: api.TokNumeral, Text: strings.Repeat("9", n)}},
		{strings.Repeat("a", n), api.Token{Kind: api.TokSymbol, Text: strings.Repeat("a", n)}},
		{`"` + strings.Repeat(`""`, n) + `"`, api.Token{Kind: api.TokString, Text: strings.Repeat(`"`, n)}},
		{strings.Repeat(";\n", n) + "x", api.Token{Kind: api.TokSymbol, Text: "x", At: 2 * n}},
		{strings.Repeat(" ", n) + "x", api.Token{Kind: api.TokSymbol, Text: "x", At: n}},
	} {
		if got := read(t, c.text); !slices.Equal(got, []api.Token{c.want}) {
			t.Errorf("a text of %d bytes: %d tokens", len(c.text), len(got))
		}
	}
	got := read(t, strings.Repeat("(x", n))
	if len(got) != 2*n || got[2*n-1] != (api.Token{Kind: api.TokSymbol, Text: "x", At: 2*n - 1}) {
		t.Errorf("%d tokens", len(got))
	}
	refused(t, strings.Repeat("(x", n)+"\"", 2*n+1)
}

// Rule 4: the text isn't changed, and isn't kept; lists share nothing.
func TestReadKeepsNothing(t *testing.T) {
	text := []byte("(abc |d e| \"f\"\"g\" 12 1.5 #xAB #b01 :key let)")
	elder := bytes.Clone(text)
	first, _ := token.Read(text, len(text))
	second, _ := token.Read(text, len(text))
	if !bytes.Equal(text, elder) {
		t.Errorf("the text became %q", text)
	}
	want := slices.Clone(first)
	for i := range text {
		text[i] = 'z'
	}
	clear(second)
	if !slices.Equal(first, want) || first[1].Text != "abc" || first[2].Text != "d e" || first[3].Text != `f"g` {
		t.Errorf("the tokens became %v", first)
	}
}

// P4.2: how tokens stand in a text.
func TestWord(t *testing.T) {
	for _, c := range []struct {
		kind       int
		text, want string
	}{
		{api.TokOpen, "(", "("}, {api.TokClose, ")", ")"},
		{api.TokSymbol, "f", "f"}, {api.TokSymbol, signs, signs}, {api.TokSymbol, "?0", "?0"}, {api.TokSymbol, "-1", "-1"},
		{api.TokSymbol, "", "||"}, {api.TokSymbol, "a b", "|a b|"}, {api.TokSymbol, "1a", "|1a|"}, {api.TokSymbol, "0", "|0|"},
		{api.TokSymbol, ";a", "|;a|"}, {api.TokSymbol, "a;", "|a;|"}, {api.TokSymbol, " a", "| a|"}, {api.TokSymbol, "a\n", "|a\n|"},
		{api.TokSymbol, "(", "|(|"}, {api.TokSymbol, ":a", "|:a|"}, {api.TokSymbol, `"a"`, `|"a"|`}, {api.TokSymbol, "\t\n\r ~", "|\t\n\r ~|"}, {api.TokSymbol, "#x1", "|#x1|"},
		{api.TokReserved, "let", "let"},
		{api.TokNumeral, "0", "0"}, {api.TokNumeral, "120", "120"},
		{api.TokDecimal, "0.0", "0.0"}, {api.TokDecimal, "12.050", "12.050"},
		{api.TokHex, "0aF", "#x0aF"}, {api.TokBinary, "010", "#b010"},
		{api.TokString, "", `""`}, {api.TokString, `a"b`, `"a""b"`}, {api.TokString, `""`, `""""""`}, {api.TokString, "\t\r\n |\\;", "\"\t\r\n |\\;\""},
		{api.TokKeyword, "a", ":a"}, {api.TokKeyword, "1", ":1"}, {api.TokKeyword, "let", ":let"},
	} {
		for _, at := range []int{math.MinInt, -1, 0, 7, math.MaxInt} {
			x := tok(c.kind, c.text, at)
			if got, ok := token.Word(x); got != c.want || !ok {
				t.Errorf("Word of %v: %q, %v, not %q", x, got, ok, c.want)
			}
		}
	}
	for _, word := range reserved() {
		if got, ok := token.Word(tok(api.TokSymbol, word, 0)); got != "|"+word+"|" || !ok {
			t.Errorf("Word of the symbol %s: %q, %v", word, got, ok)
		}
		if got, ok := token.Word(tok(api.TokReserved, word, 0)); got != word || !ok {
			t.Errorf("Word of the reserved %s: %q, %v", word, got, ok)
		}
	}
}

// P4.2: tokens that no text has.
func TestWordOfNone(t *testing.T) {
	for _, c := range []struct {
		kind int
		text string
	}{
		{0, ""}, {0, "a"}, {11, "a"}, {-1, "("}, {math.MaxInt, "0"},
		{api.TokOpen, ""}, {api.TokOpen, ")"}, {api.TokOpen, "(("}, {api.TokOpen, "( "}, {api.TokClose, "("}, {api.TokClose, ""},
		{api.TokSymbol, "a|b"}, {api.TokSymbol, "|a|"}, {api.TokSymbol, "|"}, {api.TokSymbol, `a\b`}, {api.TokSymbol, "é"}, {api.TokSymbol, "\x00"}, {api.TokSymbol, "a\x7f"}, {api.TokSymbol, "\f"},
		{api.TokReserved, ""}, {api.TokReserved, "f"}, {api.TokReserved, "Let"}, {api.TokReserved, "let "}, {api.TokReserved, "|let|"},
		{api.TokNumeral, ""}, {api.TokNumeral, "00"}, {api.TokNumeral, "01"}, {api.TokNumeral, "-1"}, {api.TokNumeral, "1.5"}, {api.TokNumeral, "1a"}, {api.TokNumeral, "1 "}, {api.TokNumeral, " 1"}, {api.TokNumeral, "1;"},
		{api.TokDecimal, ""}, {api.TokDecimal, "1"}, {api.TokDecimal, "1."}, {api.TokDecimal, ".5"}, {api.TokDecimal, "00.5"}, {api.TokDecimal, "1.5.5"}, {api.TokDecimal, "1.5 "},
		{api.TokHex, ""}, {api.TokHex, "g"}, {api.TokHex, "#x1"}, {api.TokHex, "x1"}, {api.TokHex, "1 "}, {api.TokHex, "1\n"},
		{api.TokBinary, ""}, {api.TokBinary, "2"}, {api.TokBinary, "#b1"}, {api.TokBinary, "b1"}, {api.TokBinary, "1 1"},
		{api.TokString, "\x00"}, {api.TokString, "é"}, {api.TokString, "\x7f"}, {api.TokString, "\v"},
		{api.TokKeyword, ""}, {api.TokKeyword, ":a"}, {api.TokKeyword, "a b"}, {api.TokKeyword, "a "}, {api.TokKeyword, "|a|"}, {api.TokKeyword, "é"},
	} {
		x := tok(c.kind, c.text, 0)
		if got, ok := token.Word(x); got != "" || ok {
			t.Errorf("Word of %v: %q, %v", x, got, ok)
		}
	}
}

// P4.2: short texts, and texts of pieces, under each kind, against regular expressions.
func TestWordOfManyTexts(t *testing.T) {
	for _, kind := range kinds() {
		for i := range 256 {
			c := string([]byte{byte(i)})
			for _, text := range []string{c, "a" + c, c + "a", "1" + c, c + "1", "0." + c} {
				asRight(t, api.Token{Kind: kind, Text: text})
			}
		}
		texts("()1 0.a|\";-#", 3, func(text string) { asRight(t, api.Token{Kind: kind, Text: text}) })
		r := rand.New(rand.NewSource(3))
		for range 500 {
			asRight(t, api.Token{Kind: kind, Text: random(r)})
		}
	}
}

// P4.1, P4.2: what is read, told again with blanks between, reads the same.
func TestWordOfWhatIsRead(t *testing.T) {
	r := rand.New(rand.NewSource(4))
	for range 5000 {
		tokens, _ := token.Read([]byte(random(r)), 1<<20)
		var text strings.Builder
		for i, x := range tokens {
			word, ok := token.Word(x)
			if !ok {
				t.Fatalf("no text has %v, which was read", x)
			}
			tokens[i].At = text.Len()
			text.WriteString(word + "\n")
		}
		if got := read(t, text.String()); !slices.Equal(got, tokens) {
			t.Fatalf("%q: %v, not %v", text.String(), got, tokens)
		}
	}
}
