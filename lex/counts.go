package lex

import "glossator/api"

// trivia has a place for each kind of token: true, if it does not count.
var trivia = [api.TkOr + 1]bool{
	api.TkBlank: true, api.TkLine: true, api.TkBlock: true, api.TkOpen: true, api.TkOdd: true, api.TkBroken: true,
}

// Counts: P12.3.
func Counts(kind uint8) bool { return isToken(kind) && !trivia[kind] }

// isToken tells whether a number is the kind of a token. There is a gap behind the keywords' kinds.
func isToken(kind uint8) bool {
	return api.TkBlank <= kind && kind <= api.TkFalse || api.TkLeft <= kind && kind <= api.TkOr
}

// Next: P12.3.
func Next(l []api.Token, n int) int {
	for i := max(n, 0); i < len(l); i++ {
		if Counts(l[i].Kind) {
			return i
		}
	}
	return len(l)
}
