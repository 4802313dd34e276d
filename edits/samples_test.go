package edits

import (
	"math"
	"math/rand/v2"
	"slices"
	"strings"
	"testing"

	"glossator/api"
	"glossator/rope"
)

// far are numbers far outside of any text.
func far() []int {
	return []int{math.MinInt, math.MinInt + 1, -1 << 40, 1 << 40, math.MaxInt - 1, math.MaxInt}
}

// parts are line ends, their bytes, and characters of each length.
func parts() []string {
	return []string{"\n", "\r", "\r\n", "a", "é", "€", "\U0001F600"}
}

// invalid are strings that are no texts.
func invalid() []string {
	return []string{"\xff", "a\xc3", "\x80", "\xed\xa0\x80", "é\xf0\x9f\x98"}
}

// some are texts with every kind of line end and of character.
func some() []string {
	return []string{"", "a", "\r", "\n", "\r\n", "é\n", "ab\ncd", "ab\r\nc\U0001F600\r", "\n\r\n\r", "€\r\n\U0001F600é\n\nx"}
}

// mixed is a text of just so many bytes, of all parts in an order that does not soon come again.
func mixed(bytes int) string {
	var b strings.Builder
	for n := 1; b.Len() < bytes; n = (n*37 + 11) & 0xffff {
		p := parts()[n>>3%7]
		if b.Len()+len(p) > bytes {
			p = "x"
		}
		b.WriteString(p)
	}
	return b.String()
}

// at is a change of a range.
func at(line, char, endLine, endChar int, s string) api.Change {
	return api.Change{Ranged: true, Range: api.Range{Start: api.Pos{Line: line, Char: char}, End: api.Pos{Line: endLine, Char: endChar}}, Text: s}
}

// whole is a change without a range.
func whole(s string) api.Change { return api.Change{Text: s} }

// times is a list of one thing, so many times.
func times[T any](n int, x T) []T { return slices.Repeat([]T{x}, n) }

// put is a list of so many changes that do nothing, but the i-th.
func put(n, i int, c api.Change) []api.Change {
	l := times(n, at(0, 0, 0, 0, ""))
	l[i] = c
	return l
}

func made(t *testing.T, s string) *rope.Rope {
	t.Helper()
	r, e := rope.New(s)
	if e != api.OK {
		t.Fatalf("New(%.80q): %d", s, e)
	}
	return r
}

// places are all positions in a text and around it.
func places(s string) []api.Pos {
	var l []api.Pos
	for line := -1; line <= strings.Count(s, "\n")+strings.Count(s, "\r")+1; line++ {
		for char := -1; char <= len(s)+1; char++ {
			l = append(l, api.Pos{Line: line, Char: char})
		}
	}
	return l
}

// farPlaces are positions of which a number is far outside of any text.
func farPlaces() []api.Pos {
	var l []api.Pos
	for _, n := range far() {
		for _, m := range append(far(), -1, 0, 1) {
			l = append(l, api.Pos{Line: n, Char: m}, api.Pos{Line: m, Char: n})
		}
	}
	return l
}

// anyChange is one of some small texts in some place of a text of a few lines; seldom one without a range, or one that is wrong.
func anyChange(random *rand.Rand) api.Change {
	texts := append(parts(), "", "", "", "xyz", "\n\n", "\r\nab\r")
	s := texts[random.IntN(len(texts))]
	switch random.IntN(60) {
	case 0:
		return whole(s + "\n" + s)
	case 1:
		return at(0, 0, 0, 0, invalid()[random.IntN(len(invalid()))])
	case 2:
		return at(1, 0, 0, random.IntN(3), s)
	}
	line, char := random.IntN(5)-1, random.IntN(6)-1
	if random.IntN(2) == 0 {
		return at(line, char, line, char+random.IntN(4), s)
	}
	return at(line, char, line+random.IntN(3), char+random.IntN(3), s)
}

func anyChanges(random *rand.Rand, n int) []api.Change {
	l := make([]api.Change, n)
	for i := range l {
		l[i] = anyChange(random)
	}
	return l
}
