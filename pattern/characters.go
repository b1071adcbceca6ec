package pattern

import "strings"

// The bytes that have a meaning of their own in a pattern's string, and the digits of a byte's number.
const (
	openToken   = '('
	closeToken  = ')'
	repeatToken = '*'
	dashToken   = '-'
	fromToken   = '['
	escapeToken = '\\'
	toToken     = ']'
	altToken    = '|'

	reservedBytes = `()*-[\]|`
	digits        = "0123456789abcdef"
)

// escapeLength is the number of bytes of a character that is written by its number.
const escapeLength = len(`\x00`)

// A token of a pattern's string is one of the reserved bytes other than the backslash, or the character that stands for a byte.
type token struct {
	reserved bool
	value    int
}

// tokens splits a pattern's string. It returns false if a part of it is no token.
func tokens(s string) ([]token, bool) {
	var l []token
	next := 0 // where the next token begins
	for i, r := range s {
		if i < next {
			continue
		}
		next = i + 1
		switch {
		case r == escapeToken:
			b, ok := escaped(s[i:])
			if !ok {
				return nil, false
			}
			l = append(l, token{value: b})
			next = i + escapeLength
		case plain(int(r)):
			l = append(l, token{value: int(r)})
		case strings.ContainsRune(reservedBytes, r):
			l = append(l, token{reserved: true, value: int(r)})
		default:
			return nil, false
		}
	}
	return l, true
}

// plain reports whether a byte, or another rune of a string, stands for itself.
func plain(b int) bool {
	return b >= '!' && b <= '~' && !strings.ContainsRune(reservedBytes, rune(b))
}

// escaped returns the byte whose number is at the beginning of s.
func escaped(s string) (int, bool) {
	if len(s) < escapeLength || s[1] != 'x' {
		return 0, false
	}
	high, low := strings.IndexByte(digits, s[2]), strings.IndexByte(digits, s[3])
	if high < 0 || low < 0 {
		return 0, false
	}
	return high<<4 | low, true
}

// character returns the character that stands for a byte.
func character(b int) string {
	if plain(b) {
		return string(rune(b))
	}
	return `\x` + string(digits[b>>4]) + string(digits[b&15])
}
