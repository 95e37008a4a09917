package token

import (
	"bytes"
	"strings"

	"collator/api"
)

// reader goes through a text; at the first byte that is wrong it panics with the fault.
type reader struct {
	text []byte
	at   int
}

// all gives the tokens from here on.
func (r *reader) all() (tokens []api.Token, fault api.Fault) {
	defer func() {
		if wrong := recover(); wrong != nil {
			// What isn't a fault panics here again: it must not be taken for an answer.
			tokens, fault = nil, wrong.(api.Fault)
		}
	}()
	for r.skip() {
		read := r.way()
		tokens = append(tokens, read())
	}
	return tokens, fault
}

// skip goes past blanks, and tells whether anything is behind them.
func (r *reader) skip() bool {
	for {
		r.past(isBlank)
		if r.here() != ';' {
			return r.at < len(r.text)
		}
		length := bytes.IndexByte(r.text[r.at:], '\n')
		if length < 0 {
			length = len(r.text) - r.at
		}
		r.at += length
	}
}

// way gives how the token that begins here is read.
func (r *reader) way() func() api.Token {
	switch c := r.here(); {
	case c == '(' || c == ')':
		return r.paren
	case isDigit(c):
		return r.number
	case c == '#':
		return r.bits
	case c == '"':
		return r.quoted
	case c == ':':
		return r.keyword
	case c == '|':
		return r.barred
	case isSymbol(c):
		return r.symbol
	}
	return r.none
}

func (r *reader) none() api.Token {
	r.refuse()
	return api.Token{}
}

func (r *reader) paren() api.Token {
	t := api.Token{Kind: api.TokOpen, Text: "(", At: r.at}
	if r.here() == ')' {
		t.Kind, t.Text = api.TokClose, ")"
	}
	r.at++
	return t
}

// number reads a numeral, or a decimal.
func (r *reader) number() api.Token {
	t := api.Token{Kind: api.TokNumeral, At: r.at}
	if r.here() == '0' {
		// A 0 ahead is all of the first digits, so a second one is a symbol's byte behind them.
		r.at++
	} else {
		r.past(isDigit)
	}
	if r.here() == '.' && r.at+1 < len(r.text) && isDigit(r.text[r.at+1]) {
		t.Kind = api.TokDecimal
		r.at++
		r.past(isDigit)
	}
	t.Text = string(r.text[t.At:r.at])
	r.bare()
	return t
}

// bits reads a hexadecimal token, or a binary one.
func (r *reader) bits() api.Token {
	t := api.Token{Kind: api.TokHex, At: r.at}
	is := isHex
	r.at++
	switch r.here() {
	case 'x':
	case 'b':
		t.Kind, is = api.TokBinary, isBit
	default:
		r.refuse()
	}
	r.at++
	t.Text = r.some(is)
	r.bare()
	return t
}

// quoted reads a string.
func (r *reader) quoted() api.Token {
	t := api.Token{Kind: api.TokString, At: r.at}
	var text strings.Builder
	for {
		r.at++
		text.WriteString(r.run(isQuoted))
		r.pass('"')
		if r.here() != '"' {
			t.Text = text.String()
			return t
		}
		text.WriteByte('"')
	}
}

func (r *reader) keyword() api.Token {
	t := api.Token{Kind: api.TokKeyword, At: r.at}
	r.at++
	t.Text = r.some(isSymbol)
	return t
}

// barred reads a symbol between two |: there a reserved word is one, too.
func (r *reader) barred() api.Token {
	t := api.Token{Kind: api.TokSymbol, At: r.at}
	r.at++
	t.Text = r.run(isBarred)
	r.pass('|')
	return t
}

func (r *reader) symbol() api.Token {
	t := api.Token{Kind: api.TokSymbol, At: r.at}
	t.Text = r.run(isSymbol)
	if isReserved(t.Text) {
		t.Kind = api.TokReserved
	}
	return t
}

// here gives the byte that is next; at the end 0, which no token may have, just as it may not have the end.
func (r *reader) here() byte {
	if r.at < len(r.text) {
		return r.text[r.at]
	}
	return 0
}

// past goes past all bytes of a kind.
func (r *reader) past(is func(byte) bool) {
	for r.at < len(r.text) && is(r.text[r.at]) {
		r.at++
	}
}

// run goes past all bytes of a kind, and gives them.
func (r *reader) run(is func(byte) bool) string {
	from := r.at
	r.past(is)
	return string(r.text[from:r.at])
}

// some goes past all bytes of a kind, of which there must be one at least, and gives them.
func (r *reader) some(is func(byte) bool) string {
	text := r.run(is)
	if text == "" {
		r.refuse()
	}
	return text
}

// pass goes past one byte, which must be next.
func (r *reader) pass(c byte) {
	if r.here() != c {
		r.refuse()
	}
	r.at++
}

// bare asks that no symbol's byte is next.
func (r *reader) bare() {
	if isSymbol(r.here()) {
		r.refuse()
	}
}

// refuse ends the reading: the next byte, or the end, is wrong.
func (r *reader) refuse() { panic(api.Fault{Code: api.ErrByte, At: r.at}) }
