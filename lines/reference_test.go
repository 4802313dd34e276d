package lines

import (
	"slices"
	"strings"
	"unicode/utf16"

	"glossator/api"
)

// The reference: one walk over the characters that carries a position along. It shares nothing with the package, and nothing with utf.

// place is an offset at which a character or an invalid byte begins, or the end of the text, and its position.
type place struct {
	at  int
	pos api.Pos
}

// places are all places of a text, in order. A byte 10 that is the second of a line end has the position of the first.
func places(s string) []place {
	var l []place
	var p api.Pos
	before := rune(-1)
	put := func(at int, r rune) {
		if before == '\n' || before == '\r' && r != '\n' {
			p = api.Pos{Line: p.Line + 1}
		}
		l = append(l, place{at, p})
		if r != '\n' && r != '\r' {
			p.Char += utf16.RuneLen(r)
		}
		before = r
	}
	for at, r := range s {
		put(at, r)
	}
	put(len(s), 0)
	return l
}

// startsOf are the offsets of the first place of each line.
func startsOf(l []place) []int {
	var starts []int
	for i, x := range l {
		if i == 0 || x.pos.Line != l[i-1].pos.Line {
			starts = append(starts, x.at)
		}
	}
	return starts
}

// contentsOf are the contents of the lines, each cut out of the text after all line ends were made alike.
func contentsOf(s string) []string {
	return strings.Split(strings.NewReplacer("\r\n", "\n", "\r", "\n").Replace(s), "\n")
}

// posOf is the position of the last place that is not after the offset.
func posOf(l []place, at int) api.Pos {
	pos := l[0].pos
	for _, x := range l {
		if x.at <= at {
			pos = x.pos
		}
	}
	return pos
}

// offsetOf is the first place of the line with the greatest Char that is not above that of p.
func offsetOf(l []place, p api.Pos) int {
	line, char := max(p.Line, 0), max(p.Char, 0)
	best := place{at: l[len(l)-1].at, pos: api.Pos{Char: -1}}
	for _, x := range l {
		if x.pos.Line == line && x.pos.Char <= char && x.pos.Char > best.pos.Char {
			best = x
		}
	}
	return best.at
}

// pieces are the bytes of line ends, characters of each length, and bytes that are no character.
func pieces() []string {
	return []string{"\n", "\r", "\r\n", "a", "é", "\u2028", "\U0001F600", "\xff", "\xf0\x9f\x98"}
}

// eachText calls f with every concatenation of at most most of the pieces, each text once.
func eachText(most int, f func(s string)) {
	seen := map[string]bool{}
	var grow func(s string, n int)
	grow = func(s string, n int) {
		if !seen[s] {
			seen[s] = true
			f(s)
		}
		if n < most {
			for _, p := range pieces() {
				grow(s+p, n+1)
			}
		}
	}
	grow("", 0)
}

// eachPos calls f with every position within the text, and with those around it.
func eachPos(s string, f func(p api.Pos)) {
	for line := -1; line <= len(contentsOf(s))+1; line++ {
		for char := -1; char <= len(s)+1; char++ {
			f(api.Pos{Line: line, Char: char})
		}
	}
}

func notGreater(a, b api.Pos) bool {
	return slices.Compare([]int{a.Line, a.Char}, []int{b.Line, b.Char}) <= 0
}
