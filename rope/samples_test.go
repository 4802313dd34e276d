package rope

import (
	"math"
	"strings"
	"testing"
	"unicode/utf8"

	"glossator/api"
)

// example is the text of the chapter's examples.
const example = "ab\r\nc\U0001F600\r"

// far are numbers far outside of any text.
func far() []int {
	return []int{math.MinInt, math.MinInt + 1, -1 << 40, 1 << 40, math.MaxInt - 1, math.MaxInt}
}

// parts are line ends, their bytes, and characters of each length.
func parts() []string {
	return []string{"\n", "\r", "\r\n", "a", "é", "€", "\U0001F600"}
}

// invalid are strings that are no texts.
func invalid() []string {
	return []string{"\xff", "a\xc3", "\x80", "\xe2\x82", "\xed\xa0\x80", "\xc0\x80", "\xf4\x90\x80\x80", "é\xf0\x9f\x98"}
}

// eachText calls f with every concatenation of at most so many of the parts, each text once.
func eachText(many int, f func(s string)) {
	seen := map[string]bool{}
	var grow func(s string, n int)
	grow = func(s string, n int) {
		if !seen[s] {
			seen[s] = true
			f(s)
		}
		if n < many {
			for _, p := range parts() {
				grow(s+p, n+1)
			}
		}
	}
	grow("", 0)
}

// mixed is a text of just so many bytes, of all parts in an order that does not soon come again.
func mixed(bytes int) string {
	var b strings.Builder
	for n := 1; b.Len() < bytes; n = (n*37 + 11) & 0xffff {
		p := parts()[n>>3%7]
		if b.Len()+len(p) > bytes {
			p = "x"
		}
		b.WriteString(p)
	}
	return b.String()
}

// longer are texts of several leaves: of line ends alone, of long characters, of one line, with a line end at each place of a leaf's edge.
func longer() []string {
	l := []string{
		strings.Repeat("\r\n", most+1), "x" + strings.Repeat("\r\n", most), strings.Repeat("\r", 3*most), strings.Repeat("\n", 3*most), strings.Repeat("\n\r", 2*most),
		strings.Repeat("\U0001F600", most), "x" + strings.Repeat("€", most), strings.Repeat("é\r\n", most), strings.Repeat("a", 4*most), mixed(300), mixed(701),
	}
	for n := most - 3; n <= most+1; n++ {
		l = append(l, strings.Repeat("a", n)+"\r\n"+strings.Repeat("b", most-2), strings.Repeat("a", n)+"\U0001F600"+strings.Repeat("\r\n", most/2))
	}
	return l
}

// maker makes a rope of a text in its own way.
type maker func(t *testing.T, s string) *Rope

// makers are the ways in which ropes of one text get trees of different forms.
func makers() map[string]maker {
	return map[string]maker{
		"New":       made,
		"appended":  func(t *testing.T, s string) *Rope { return typed(t, s, func(i, n int) int { return i }) },
		"prepended": func(t *testing.T, s string) *Rope { return typed(t, s, func(i, n int) int { return 0 }) },
		"inwards":   func(t *testing.T, s string) *Rope { return typed(t, s, func(i, n int) int { return (i + 1) / 2 }) },
		"cut out": func(t *testing.T, s string) *Rope {
			return edited(t, edited(t, made(t, mixed(200)+s+mixed(99)), 200+len(s), 299+len(s), ""), 0, 200, "")
		},
		"put into": func(t *testing.T, s string) *Rope {
			half := len(s) / 2
			for !fits(s, half, half) {
				half--
			}
			return edited(t, edited(t, made(t, "#"), 1, 1, s[half:]), 0, 1, s[:half])
		},
	}
}

func made(t *testing.T, s string) *Rope {
	t.Helper()
	r, e := New(s)
	if e != api.OK {
		t.Fatalf("New(%.80q): %d", s, e)
	}
	return r
}

func edited(t *testing.T, r *Rope, from, to int, s string) *Rope {
	t.Helper()
	now, e := r.Splice(from, to, s)
	if e != api.OK {
		t.Fatalf("%.80q: Splice(%d, %d, %.80q): %d", r.Text(), from, to, s, e)
	}
	return now
}

// typed makes a rope character by character; place tells, of the i-th insertion, before which of the i characters that are there it falls.
func typed(t *testing.T, s string, place func(i, n int) int) *Rope {
	t.Helper()
	runes := []rune(s)
	// Which character is inserted when: the places are taken back, from the last insertion to the first.
	order := make([]rune, len(runes))
	left := append([]rune(nil), runes...)
	for i := len(runes) - 1; i >= 0; i-- {
		k := place(i, len(runes))
		order[i] = left[k]
		left = append(left[:k], left[k+1:]...)
	}
	r := new(Rope)
	var now []rune
	for i, c := range order {
		k := place(i, len(runes))
		at := 0
		for _, x := range now[:k] {
			at += utf8.RuneLen(x)
		}
		r = edited(t, r, at, at, string(c))
		now = append(now[:k], append([]rune{c}, now[k:]...)...)
	}
	return r
}
