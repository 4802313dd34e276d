// Package utf is layer 1: see shared/doc/01-utf.md.
package utf

import "unicode/utf8"

// Valid: P1.1.
func Valid(s string) bool { return utf8.ValidString(s) }

// Next: P1.1.
func Next(s string, at int) (rune, int, bool) {
	if at < 0 || at >= len(s) {
		return 0, 0, false
	}
	r, size := utf8.DecodeRuneInString(s[at:])
	// U+FFFD that stands there itself has three bytes: the width alone tells it from an invalid byte.
	if r == utf8.RuneError && size == 1 {
		return 0, 0, false
	}
	return r, size, true
}

// Begin: P1.2.
func Begin(s string, at int) int {
	if at < 0 {
		return 0
	}
	if at >= len(s) {
		return len(s)
	}
	// A byte that begins a character is never inside another one, so a character that is found by looking back is found by scanning, too.
	for from := max(at-utf8.UTFMax+1, 0); from < at; from++ {
		if _, size, ok := Next(s, from); ok && from+size > at {
			return from
		}
	}
	return at
}

// Units: P1.3.
func Units(s string) int {
	n := 0
	for _, r := range s {
		n += width(r)
	}
	return n
}

// Cut: P1.3.
func Cut(s string, units int) int {
	// What is below 0 must not get to the subtraction: the least int would wrap round.
	if units < 0 {
		return 0
	}
	for at, r := range s {
		units -= width(r)
		if units < 0 {
			return at
		}
	}
	return len(s)
}

// width is the units of a character. Range tells an invalid byte as U+FFFD, which has one unit as well.
func width(r rune) int {
	if r >= 0x10000 {
		return 2
	}
	return 1
}

// Fix: P1.4.
func Fix(s string) string {
	if Valid(s) {
		return s
	}
	fixed := make([]byte, 0, len(s))
	for _, r := range s {
		fixed = utf8.AppendRune(fixed, r)
	}
	return string(fixed)
}
