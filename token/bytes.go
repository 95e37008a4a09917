package token

import "strings"

func isBlank(c byte) bool { return c == '\t' || c == '\n' || c == '\r' || c == ' ' }

func isBit(c byte) bool { return c == '0' || c == '1' }

func isDigit(c byte) bool { return c >= '0' && c <= '9' }

func isLetter(c byte) bool { return c >= 'a' && c <= 'z' || c >= 'A' && c <= 'Z' }

func isHex(c byte) bool { return isDigit(c) || c >= 'a' && c <= 'f' || c >= 'A' && c <= 'F' }

// isSymbol tells whether a byte is a symbol's byte.
func isSymbol(c byte) bool {
	return isLetter(c) || isDigit(c) || strings.IndexByte("~!@$%^&*_-+=<>.?/", c) >= 0
}

// isPlain tells whether a byte may be in what is quoted, or stands between two |.
func isPlain(c byte) bool { return isBlank(c) || c >= 32 && c <= 126 }

// isQuoted tells whether a byte tells itself in a string.
func isQuoted(c byte) bool { return isPlain(c) && c != '"' }

// isBarred tells whether a byte may be between two |.
func isBarred(c byte) bool { return isPlain(c) && c != '|' && c != '\\' }

// isReserved tells whether a symbol's bytes are a reserved word.
func isReserved(word string) bool {
	switch word {
	case "_", "!", "as", "let", "exists", "forall", "match", "par",
		"BINARY", "DECIMAL", "HEXADECIMAL", "NUMERAL", "STRING":
		return true
	}
	return false
}
