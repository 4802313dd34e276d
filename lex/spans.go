package lex

import "glossator/api"

// farthest is the greatest offset of a span: sums of any Widths stay within an int.
const farthest = 1 << 40

// Spans: P12.2.
func Spans(l []api.Token) []api.Span {
	spans := make([]api.Span, len(l))
	at := 0
	for i, token := range l {
		to := end(at, token)
		spans[i] = api.Span{From: at, To: to}
		at = to
	}
	return spans
}

// At: P12.2.
func At(l []api.Token, place int) int {
	if place < 0 {
		return -1
	}
	to := 0
	for i, token := range l {
		// The tokens before it end at or before the place, so it begins there.
		if to = end(to, token); place < to {
			return i
		}
	}
	return -1
}

// end is where a token ends that begins at an offset.
func end(at int, token api.Token) int {
	// A Width is cut ahead of the sum, which could wrap round.
	return min(at+min(max(token.Width, 0), farthest), farthest)
}
