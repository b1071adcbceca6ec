package formula

import (
	"slices"

	"koine/api"
)

// The names of the constants, which no condition can have.
const (
	trueName  = "true"
	falseName = "false"
)

// validNames reports whether names is a name list.
func validNames(names []string) bool {
	if len(names) > api.MaxConditions {
		return false
	}
	for i, name := range names {
		if name == trueName || name == falseName || slices.Contains(names[:i], name) {
			return false
		}
		if name == "" || wordLength(name) != len(name) {
			return false
		}
	}
	return true
}

// wordLength returns the length of the longest identifier at the beginning of s, or 0 if there is none.
func wordLength(s string) int {
	n := 0
	for n < len(s) && (isLetter(s[n]) || n > 0 && isDigit(s[n])) {
		n++
	}
	return n
}

func isLetter(b byte) bool {
	return b >= 'a' && b <= 'z' || b >= 'A' && b <= 'Z' || b == '_'
}

func isDigit(b byte) bool { return b >= '0' && b <= '9' }
