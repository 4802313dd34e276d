package dfa

import (
	"regexp"
	"strings"
	"unicode/utf8"

	"glossator/api"
)

// The reference of DOC.md: of which kinds a beginning of a rest is, by its table 'Tokens' alone, without states.

// A regexp takes an invalid byte as a character, too.
var (
	blanks = regexp.MustCompile(`\A[\x20\x09\x0A\x0D]+\z`)
	digits = regexp.MustCompile(`\A[0-9]+\z`)
	quoted = regexp.MustCompile(`\A"([^"\x0A\x0D\\]|\\[^\x0A\x0D])*"\z`)
	broken = regexp.MustCompile(`\A"([^"\x0A\x0D\\]|\\[^\x0A\x0D])*\\?\z`)
	others = regexp.MustCompile(`\A[^\x20\x09\x0A\x0Da-zA-Z_0-9"/(){},;=<>+\-*%!]\z`)
)

func operators() []string {
	return strings.Fields("( ) { } , ; = == != < <= > >= + - * / % ! && ||") // TkLeft .. TkOr
}

// kindsOf are the kinds of which the first n bytes of rest are.
func kindsOf(rest string, n int) (l []uint8) {
	s, behind := rest[:n], rest[n:]
	if blanks.MatchString(s) {
		l = append(l, api.TkBlank)
	}
	if strings.HasPrefix(s, "//") && !strings.ContainsAny(s, "\n\r") && lineEnds(behind) {
		l = append(l, api.TkLine)
	}
	if inner, ok := strings.CutPrefix(s, "/*"); ok {
		first := strings.Index(inner, "*/")
		if first >= 0 && first == len(inner)-2 {
			l = append(l, api.TkBlock)
		}
		if first < 0 && behind == "" {
			l = append(l, api.TkOpen)
		}
	}
	if name.MatchString(s) {
		l = append(l, wantWord(s))
	}
	if digits.MatchString(s) {
		l = append(l, api.TkInt)
	}
	if quoted.MatchString(s) {
		l = append(l, api.TkText)
	}
	if broken.MatchString(s) && lineEnds(behind) {
		l = append(l, api.TkBroken)
	}
	for i, x := range operators() {
		if s == x {
			l = append(l, api.TkLeft+uint8(i))
		}
	}
	if others.MatchString(s) {
		l = append(l, api.TkOdd)
	}
	return l
}

func lineEnds(behind string) bool {
	return behind == "" || behind[0] == '\n' || behind[0] == '\r'
}

// ends are the offsets at which the characters and invalid bytes of s end.
func ends(s string) (l []int) {
	for at := 0; at < len(s); {
		_, size := utf8.DecodeRuneInString(s[at:])
		at += size
		l = append(l, at)
	}
	return l
}
