package grammar

import (
	"sync"

	"glossator/api"
)

// beyond is the first number beyond the kinds of tokens.
const beyond = api.TkOr + 1

// The number that is no token's kind: in a rule and in FIRST it stands for the empty sequence, in FOLLOW for the end.
const (
	nothing uint8 = 0
	end     uint8 = 0
)

// none stands in the place of a rule where there is none.
const none = -1

// set has a bit for each kind.
type set uint64

func only(kind uint8) set { return 1 << kind }

func (s set) has(kind uint8) bool { return s>>kind&1 == 1 }

func (s set) without(kind uint8) set { return s &^ only(kind) }

// then is what stands first where something that begins with s comes ahead of something that begins with after.
func (s set) then(after set) set {
	if s.has(nothing) {
		return s.without(nothing) | after
	}
	return s
}

// kinds are those of the set in ascending order.
func (s set) kinds() []uint8 {
	var l []uint8
	for kind := range beyond {
		if s.has(kind) {
			l = append(l, kind)
		}
	}
	return l
}

// sets are one for each part; those of other numbers are empty.
type sets [256]set

// FIRST and FOLLOW worked out from the rules; the functions of parts.go tell the same. The arrays hold nothing until once has built them, so they are read by built alone.
var (
	once     sync.Once
	firstOf  sets
	followOf sets
)

func build() {
	rules := all()
	firstOf = firsts(rules)
	followOf = follows(rules, firstOf)
}

// built is the two arrays.
func built() (first, follow sets) {
	once.Do(build)
	return firstOf, followOf
}

// isKind tells whether a symbol of a rule is the kind of a token.
func isKind(symbol uint8) bool { return symbol < beyond }

// of is FIRST of a symbol.
func (first *sets) of(symbol uint8) set {
	if isKind(symbol) {
		return only(symbol)
	}
	return first[symbol]
}

// ahead is what stands first where symbols come ahead of something that begins with after.
func (first *sets) ahead(symbols []uint8, after set) set {
	for n := len(symbols) - 1; n >= 0; n-- {
		after = first.of(symbols[n]).then(after)
	}
	return after
}

// firsts is FIRST of all parts: the rules add to it until nothing is new.
func firsts(rules []rule) sets {
	var first sets
	for {
		before := first
		for _, r := range rules {
			first[r.part] |= first.ahead(r.right[:], only(nothing))
		}
		if first == before {
			return first
		}
	}
}

// follows is FOLLOW of all parts, in the same way.
func follows(rules []rule, first sets) sets {
	var follow sets
	follow[api.NkFile] = only(end)
	for {
		before := follow
		for _, r := range rules {
			for n, symbol := range r.right {
				if !isKind(symbol) {
					follow[symbol] |= first.ahead(r.right[n+1:], follow[r.part])
				}
			}
		}
		if follow == before {
			return follow
		}
	}
}

// fitting are the kinds, and the end, at which each rule meets the condition for being chosen.
func fitting(rules []rule, first, follow sets) []set {
	fits := make([]set, len(rules))
	for n, r := range rules {
		fits[n] = first.ahead(r.right[:], follow[r.part])
	}
	return fits
}

// choose is the rule chosen for a part at a kind, or at the end.
func choose(rules []rule, fits []set, part, kind uint8) int {
	for n, r := range rules {
		if r.part == part && fits[n].has(kind) {
			return n
		}
	}
	return none
}

// clash tells whether two rules of a part fit at one kind, or at the end.
func clash(rules []rule, fits []set) bool {
	var taken sets
	for n, r := range rules {
		if taken[r.part]&fits[n] != 0 {
			return true
		}
		taken[r.part] |= fits[n]
	}
	return false
}
