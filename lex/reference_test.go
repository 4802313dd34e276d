package lex

import (
	"math/big"
	"regexp"
	"slices"
	"strings"
	"unicode/utf8"

	"glossator/api"
)

// The reference of DOC.md's table 'Tokens', without the scanner's table, and of chapters 11 and 12 for the Look and the spans.

// A regexp takes an invalid byte as a character, too; each of these finds the longest beginning.
var (
	blanks = longest(`\A[\x20\x09\x0A\x0D]+`)
	lines  = longest(`\A//[^\x0A\x0D]*`)
	names  = longest(`\A[a-zA-Z_][a-zA-Z0-9_]*`)
	digits = longest(`\A[0-9]+`)
	quoted = longest(`\A"([^"\x0A\x0D\\]|\\[^\x0A\x0D])*"`)
	broken = longest(`\A"([^"\x0A\x0D\\]|\\[^\x0A\x0D])*\\?`)
)

func longest(pattern string) *regexp.Regexp {
	r := regexp.MustCompile(pattern)
	r.Longest()
	return r
}

func operators() []string {
	return strings.Fields("( ) { } , ; = == != < <= > >= + - * / % ! && ||") // TkLeft .. TkOr
}

// wantFirst is the kind and the width of the token that s begins with: the longest one.
func wantFirst(s string) (kind uint8, width int) {
	take := func(k uint8, found string) {
		if found != "" && len(found) >= width { // of one character: all others take it from TkOdd
			kind, width = k, len(found)
		}
	}
	_, size := utf8.DecodeRuneInString(s)
	take(api.TkOdd, s[:size])
	for i, x := range operators() {
		if strings.HasPrefix(s, x) {
			take(api.TkLeft+uint8(i), x)
		}
	}
	take(api.TkBlank, blanks.FindString(s))
	take(wantName(names.FindString(s)), names.FindString(s))
	take(api.TkInt, digits.FindString(s))
	take(api.TkBroken, broken.FindString(s))
	take(api.TkText, quoted.FindString(s))
	take(api.TkLine, lines.FindString(s))
	if inner, ok := strings.CutPrefix(s, "/*"); ok {
		take(api.TkOpen, s)
		if n := strings.Index(inner, "*/"); n >= 0 {
			return api.TkBlock, n + 4
		}
	}
	return kind, width
}

func wantName(s string) uint8 {
	if n := slices.Index(words(), s); n >= 0 {
		return api.TkLet + uint8(n)
	}
	return api.TkName
}

// wantLook is the Look of a token of that kind and width that s begins with.
func wantLook(s string, kind uint8, width int) int {
	switch kind {
	case api.TkOdd:
		if s[0] == '&' || s[0] == '|' {
			return 1
		}
		if r, size := utf8.DecodeRuneInString(s); r == utf8.RuneError && size == 1 {
			return min(3, len(s))
		}
		return 0
	case api.TkBlock, api.TkText, api.TkEqual, api.TkUnlike, api.TkAtMost, api.TkAtLeast, api.TkAnd, api.TkOr,
		api.TkLeft, api.TkRight, api.TkBegin, api.TkEnd, api.TkComma, api.TkSemi, api.TkPlus, api.TkMinus, api.TkTimes, api.TkRest:
		return 0
	}
	return 1
}

func wantAll(s string) (l []api.Token) {
	for s != "" {
		kind, width := wantFirst(s)
		l = append(l, api.Token{Kind: kind, Width: width, Look: wantLook(s, kind, width)})
		s = s[width:]
	}
	return l
}

// wantSpans adds the widths as numbers of any size.
func wantSpans(l []api.Token) []api.Span {
	most := big.NewInt(1 << 40)
	sum := new(big.Int)
	offset := func() int {
		if sum.Cmp(most) > 0 {
			return 1 << 40
		}
		return int(sum.Int64())
	}
	var spans []api.Span
	for _, t := range l {
		x := api.Span{From: offset()}
		if t.Width > 0 {
			sum.Add(sum, big.NewInt(int64(t.Width)))
		}
		x.To = offset()
		spans = append(spans, x)
	}
	return spans
}

func wantAt(spans []api.Span, place int) int {
	for i, x := range spans {
		if x.From <= place && x.To > place {
			return i
		}
	}
	return -1
}

func wantCounts(kind uint8) bool {
	switch kind {
	case api.TkName, api.TkInt, api.TkText, api.TkLet, api.TkFn, api.TkIf, api.TkElse, api.TkWhile, api.TkReturn, api.TkTrue, api.TkFalse,
		api.TkLeft, api.TkRight, api.TkBegin, api.TkEnd, api.TkComma, api.TkSemi, api.TkAssign, api.TkEqual, api.TkUnlike, api.TkLess, api.TkAtMost, api.TkMore, api.TkAtLeast,
		api.TkPlus, api.TkMinus, api.TkTimes, api.TkOver, api.TkRest, api.TkNot, api.TkAnd, api.TkOr:
		return true
	}
	return false
}

func wantNext(l []api.Token, n int) int {
	for i, t := range l {
		if i >= n && wantCounts(t.Kind) {
			return i
		}
	}
	return len(l)
}
