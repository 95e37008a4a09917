package token_test

import (
	"math/rand"
	"regexp"
	"slices"
	"strings"
	"testing"

	"collator/api"
	"collator/token"
)

// signs are a symbol's bytes that are no letters and no digits.
const signs = `~!@$%^&*_-+=<>.?/`

// reserved are the words that are no symbols.
func reserved() []string {
	return []string{"_", "!", "as", "let", "exists", "forall", "match", "par", "BINARY", "DECIMAL", "HEXADECIMAL", "NUMERAL", "STRING"}
}

// kinds are those of tokens, and numbers that are none of these.
func kinds() []int {
	return []int{
		api.TokOpen, api.TokClose, api.TokSymbol, api.TokReserved, api.TokNumeral, api.TokDecimal, api.TokHex, api.TokBinary, api.TokString, api.TokKeyword,
		-1 << 63, -1, 0, 11, 1<<63 - 1,
	}
}

func tok(kind int, text string, at int) api.Token { return api.Token{Kind: kind, Text: text, At: at} }

// read gives the tokens of a text that has no fault.
func read(t *testing.T, text string) []api.Token {
	t.Helper()
	tokens, fault := token.Read([]byte(text), len(text))
	if fault != (api.Fault{}) {
		t.Errorf("%q: the fault %v", text, fault)
	}
	return tokens
}

// refused asks that a text has a fault there, and no tokens.
func refused(t *testing.T, text string, at int) {
	t.Helper()
	tokens, fault := token.Read([]byte(text), len(text))
	if want := (api.Fault{Code: api.ErrByte, At: at}); fault != want || tokens != nil {
		t.Errorf("%q: %v, %v, not %v", text, tokens, fault, want)
	}
}

// shape is how tokens look whose first byte is of a kind: all that can be of one, and what must be behind it.
type shape struct {
	first, body *regexp.Regexp
	end         func(body, behind string) bool
	token       func(body string) api.Token
	tail        string
}

// shapes gives how tokens look, by regular expressions.
func shapes() []shape {
	const sym, blank, plain = `[A-Za-z0-9~!@$%^&*_+=<>.?/-]`, `[\t\n\r ]`, `\t\n\r`
	behind := regexp.MustCompile(`^` + sym)
	bare := func(_, rest string) bool { return !behind.MatchString(rest) }
	free := func(string, string) bool { return true }
	one := func(kind, cut int) func(string) api.Token {
		return func(body string) api.Token { return api.Token{Kind: kind, Text: body[cut:]} }
	}
	compile := func(first, body string, end func(string, string) bool, token func(string) api.Token, tail string) shape {
		return shape{regexp.MustCompile(`^` + first), regexp.MustCompile(`^(?:` + body + `)`), end, token, tail}
	}
	return []shape{
		compile(`\(`, `\(`, free, one(api.TokOpen, 0), ""),
		compile(`\)`, `\)`, free, one(api.TokClose, 0), ""),
		compile(`[0-9]`, `(?:0|[1-9][0-9]*)(?:\.[0-9]+)?`, bare, func(body string) api.Token {
			if strings.Contains(body, ".") {
				return api.Token{Kind: api.TokDecimal, Text: body}
			}
			return api.Token{Kind: api.TokNumeral, Text: body}
		}, ""),
		compile(`#x`, `#x[0-9a-fA-F]*`, func(body, rest string) bool { return len(body) > 2 && bare(body, rest) }, one(api.TokHex, 2), ""),
		compile(`#b`, `#b[01]*`, func(body, rest string) bool { return len(body) > 2 && bare(body, rest) }, one(api.TokBinary, 2), ""),
		compile(`#`, `#`, func(string, string) bool { return false }, one(0, 0), ""),
		compile(`"`, `"(?:["]["]|[`+plain+` !#-~])*`, free, func(body string) api.Token {
			return api.Token{Kind: api.TokString, Text: strings.Join(strings.Split(body[1:], `""`), `"`)}
		}, `"`),
		compile(`:`, `:`+sym+`*`, func(body, _ string) bool { return len(body) > 1 }, one(api.TokKeyword, 1), ""),
		compile(`\|`, `\|[`+plain+` -\[\]-{}~]*`, free, one(api.TokSymbol, 1), `|`),
		compile(sym, sym+`+`, free, func(body string) api.Token {
			if slices.Contains(reserved(), body) {
				return api.Token{Kind: api.TokReserved, Text: body}
			}
			return api.Token{Kind: api.TokSymbol, Text: body}
		}, ""),
		compile(blank, blank+`+`, free, one(0, 0), ""),
		compile(`;`, `;[^\n]*`, free, one(0, 0), ""),
	}
}

// byShapes gives a text's tokens, or its fault, as regular expressions tell them.
func byShapes(list []shape, text string) ([]api.Token, api.Fault) {
	var tokens []api.Token
	for at := 0; at < len(text); {
		i := slices.IndexFunc(list, func(s shape) bool { return s.first.MatchString(text[at:]) })
		if i < 0 {
			return nil, api.Fault{Code: api.ErrByte, At: at}
		}
		body := list[i].body.FindString(text[at:])
		end := at + len(body)
		if !strings.HasPrefix(text[end:], list[i].tail) || !list[i].end(body, text[end:]) {
			return nil, api.Fault{Code: api.ErrByte, At: end}
		}
		if t := list[i].token(body); t.Kind != 0 {
			t.At = at
			tokens = append(tokens, t)
		}
		at = end + len(list[i].tail)
	}
	return tokens, api.Fault{}
}

// asShapes holds a text against what regular expressions tell.
func asShapes(t *testing.T, list []shape, text string) {
	t.Helper()
	tokens, fault := token.Read([]byte(text), len(text))
	want, wrong := byShapes(list, text)
	if fault != wrong || !slices.Equal(tokens, want) {
		t.Fatalf("%q: %v, %v, not %v, %v", text, tokens, fault, want, wrong)
	}
}

// texts calls for all texts of these bytes that have so many, or fewer.
func texts(bytes string, length int, call func(string)) {
	var grow func(string)
	grow = func(text string) {
		call(text)
		if len(text) == length {
			return
		}
		for i := range len(bytes) {
			grow(text + bytes[i:i+1])
		}
	}
	grow("")
}

// pieces are parts of texts: whole tokens, and parts that can't be.
func pieces() []string {
	return append(reserved(), "(", ")", " ", "\n", "\r\n", "\t", "; x ( \"\n", ";", "x", "f1", "|a b|", "||", "|let|", "|", "0", "10", "007", "1.5", "0.00", ".", ".5", "#x1F", "#b01", "#", "#x", "#b2",
		`"a"`, `""`, `"""`, `"`, ":k", ":", "\\", "'", "\x00", "é", "\xff", "+", "<=", "=>", "A", "9")
}

// random gives a text of pieces and bytes.
func random(r *rand.Rand) string {
	list := pieces()
	var text strings.Builder
	for range r.Intn(8) {
		if r.Intn(6) == 0 {
			text.WriteByte(byte(r.Intn(256)))
			continue
		}
		text.WriteString(list[r.Intn(len(list))])
	}
	return text.String()
}

// right tells by regular expressions how a token stands in a text.
func right(t api.Token) (string, bool) {
	const sym = `[A-Za-z0-9~!@$%^&*_+=<>.?/-]`
	is := func(form string) bool { return regexp.MustCompile(`^(?:` + form + `)\z`).MatchString(t.Text) }
	word := slices.Contains(reserved(), t.Text)
	switch t.Kind {
	case api.TokOpen:
		return t.Text, is(`\(`)
	case api.TokClose:
		return t.Text, is(`\)`)
	case api.TokSymbol:
		if is(sym+`+`) && !is(`[0-9].*`) && !word {
			return t.Text, true
		}
		return "|" + t.Text + "|", is(`[\t\n\r -\[\]-{}~]*`)
	case api.TokReserved:
		return t.Text, word
	case api.TokNumeral:
		return t.Text, is(`0|[1-9][0-9]*`)
	case api.TokDecimal:
		return t.Text, is(`(0|[1-9][0-9]*)\.[0-9]+`)
	case api.TokHex:
		return "#x" + t.Text, is(`[0-9A-Fa-f]+`)
	case api.TokBinary:
		return "#b" + t.Text, is(`[01]+`)
	case api.TokString:
		return `"` + strings.Join(strings.Split(t.Text, `"`), `""`) + `"`, is(`[\t\n\r -~]*`)
	case api.TokKeyword:
		return ":" + t.Text, is(sym + `+`)
	}
	return "", false
}

// asRight holds Word of a token against what regular expressions tell.
func asRight(t *testing.T, x api.Token) {
	t.Helper()
	want, can := right(x)
	if !can {
		want = ""
	}
	if got, ok := token.Word(x); got != want || ok != can {
		t.Fatalf("Word of %v: %q, %v, not %q, %v", x, got, ok, want, can)
	}
}
