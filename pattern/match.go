package pattern

import "koine/api"

// Matches reports whether a pattern matches a whole string.
func Matches(p api.Pattern, s string) bool {
	return Check(p) == api.OK && newMachine(p).longest(s) == len(s)
}

// Longest returns the length of the longest nonempty match at a byte offset.
func Longest(p api.Pattern, s string, at int) (int, bool) {
	if Check(p) != api.OK || at < 0 || at > len(s) {
		return 0, false
	}
	n := newMachine(p).longest(s[at:])
	if n <= 0 {
		return 0, false
	}
	return n, true
}
