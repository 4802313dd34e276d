package lex

import (
	"slices"
	"testing"

	"glossator/api"
)

// wantCovered asks for P12.4.
func wantCovered(t *testing.T, s string) {
	t.Helper()
	sum, before := 0, uint8(0)
	for i, x := range All(s) {
		if x.Width < 1 {
			t.Fatalf("%.80q: the token %d has the width %d", s, i, x.Width)
		}
		if before == api.TkBlank && x.Kind == api.TkBlank {
			t.Fatalf("%.80q: a blank beside a blank at %d", s, sum)
		}
		if before == api.TkLine && x.Kind != api.TkBlank {
			t.Fatalf("%.80q: %v behind a comment at %d", s, x, sum)
		}
		sum, before = sum+x.Width, x.Kind
	}
	if sum != len(s) {
		t.Fatalf("%.80q: %d bytes of tokens", s, sum)
	}
}

func TestCoverage(t *testing.T) { // P12.4
	eachText(parts(), 3, func(s string) { wantCovered(t, s) })
	eachText(few(), 6, func(s string) { wantCovered(t, s) })
	eachText([]string{" ", "\t", "\n", "\r", "//", "a"}, 5, func(s string) { wantCovered(t, s) })
	eachPair(func(s string) { wantCovered(t, s) })
	for _, s := range texts() {
		wantCovered(t, s)
	}
}

// tails are what comes to stand behind a token and what was looked at.
func tails() []string {
	l := append(append(parts(), invalid()...), "", "*/", "\\\"", "\x80\x80\x80", "\xbf\"", "/\n", "==", "let", "\n\"")
	return append(l, "a */ \" \n b", "\xff\xff\xff\xff")
}

// wantLookahead asks for P12.5: of every text that begins with a token's bytes and those that were looked at, and ends there if the end was.
func wantLookahead(t *testing.T, s string) {
	t.Helper()
	at := 0
	for _, x := range All(s) {
		end := at + x.Width + x.Look
		if x.Look < 0 || end > len(s)+1 {
			t.Fatalf("%.80q, at %d: %v looks at more than the end", s, at, x)
		}
		if end > len(s) {
			wantBegins(t, s[at:], x)
			at += x.Width
			continue
		}
		for _, tail := range tails() {
			wantBegins(t, s[at:end]+tail, x)
		}
		at += x.Width
	}
}

func wantBegins(t *testing.T, s string, x api.Token) {
	t.Helper()
	if l := All(s); len(l) == 0 || l[0] != x {
		t.Fatalf("%.80q begins with other tokens than %v: %.400v", s, x, l)
	}
}

func TestLookahead(t *testing.T) { // P12.5
	eachText(parts(), 2, func(s string) { wantLookahead(t, s) })
	eachText(few(), 4, func(s string) { wantLookahead(t, s) })
	eachText(append(invalid(), "é", "a"), 3, func(s string) { wantLookahead(t, s) })
	for _, s := range append(append(programs(), unended()...), mixed(60, 40)...) {
		wantLookahead(t, s)
	}
}

// TestLookIsNeeded has, for each way to look ahead, a text that is different behind its first token and what was told of it.
func TestLookIsNeeded(t *testing.T) { // P12.5
	for s, other := range map[string]string{
		"a ": "ab", "0 ": "00", " a": "  ", "//\n": "//a", "/a": "//", "=a": "==", "!a": "!=", "<a": "<=", ">a": ">=", "&a": "&&", "|a": "||", "\"\n": "\"\"", "\"\\\n": "\"\\a",
		"/*": "/*a", "/**": "/**/", "\"": "\"\"", "\"a\\": "\"a\\\"", "a": "ab", "\xc3": "é", "\xe2\x82": "€", "\xf0\x9f\x98": "\U0001F600",
	} {
		x, y := All(s)[0], All(other)[0]
		if x.Look == 0 || x.Width == y.Width {
			t.Errorf("%q: %v; %q: %v", s, x, other, y)
		}
	}
}

// wantSuffixes asks for P12.6.
func wantSuffixes(t *testing.T, s string) {
	t.Helper()
	l := All(s)
	at := 0
	for i, x := range l {
		if rest := All(s[at:]); !slices.Equal(rest, l[i:]) || !Right(s[at:], l[i:]) {
			t.Fatalf("%.80q, from %d on: %.400v, not %.400v", s, at, rest, l[i:])
		}
		at += x.Width
	}
}

func TestSuffixes(t *testing.T) { // P12.6
	eachText(parts(), 3, func(s string) { wantSuffixes(t, s) })
	eachText(few(), 5, func(s string) { wantSuffixes(t, s) })
	for _, s := range append(append(append(programs(), unended()...), invalid()...), mixed(150, 60)...) {
		wantSuffixes(t, s)
	}
}
