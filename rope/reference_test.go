package rope

import (
	"math/bits"
	"strings"
	"testing"
	"unicode/utf16"
	"unicode/utf8"

	"glossator/api"
	"glossator/lines"
)

// The reference: the text as a string, counted and cut anew for each question. Of the project it calls lines alone, for what P9.4 says is that layer's.

func unitsOf(s string) int { return len(utf16.Encode([]rune(s))) }

// startsOf are the offsets at which the lines of a text begin.
func startsOf(s string) []int {
	starts := []int{0}
	for i := range len(s) {
		if s[i] == '\n' || s[i] == '\r' && !strings.HasPrefix(s[i+1:], "\n") {
			starts = append(starts, i+1)
		}
	}
	return starts
}

// fits reports whether a span may be asked for: P9.3.
func fits(s string, from, to int) bool {
	begins := func(at int) bool { return at == len(s) || utf8.RuneStart(s[at]) }
	return 0 <= from && from <= to && to <= len(s) && begins(from) && begins(to)
}

// splicedText is what Splice must answer: P9.3.
func splicedText(old string, from, to int, s string) (string, api.Errno) {
	if !fits(old, from, to) {
		return "", api.ErrRange
	}
	if !utf8.ValidString(s) {
		return "", api.ErrUTF
	}
	now := old[:from] + s + old[to:]
	if len(now) > 16384 {
		return "", api.ErrLong
	}
	return now, api.OK
}

// deepest is the greatest depth of a text of so many bytes: P9.5.
func deepest(n int) int { return 4 + 2*max(bits.Len(uint(n)), 1) }

// wantCounts asks for the counts, the text and the depth: P9.2, P9.5.
func wantCounts(t *testing.T, r *Rope, s string) {
	t.Helper()
	if r == nil {
		t.Fatalf("no rope of %.80q", s)
	}
	if r.Len() != len(s) || r.Units() != unitsOf(s) || r.Breaks() != len(startsOf(s))-1 || r.Text() != s {
		t.Fatalf("%.80q: Len %d, Units %d, Breaks %d, Text %.80q", s, r.Len(), r.Units(), r.Breaks(), r.Text())
	}
	if d := r.Depth(); d > deepest(len(s)) || d < 0 || (d == 0) != (s == "") {
		t.Fatalf("%.80q of %d bytes: Depth %d", s, len(s), d)
	}
}

// wantPlaces asks for Start of every line, for Offset and Pos of every place, and for those around them: P9.4.
func wantPlaces(t *testing.T, r *Rope, s string) {
	t.Helper()
	starts := startsOf(s)
	for line := -2; line <= len(starts)+1; line++ {
		wantStart(t, r, starts, line)
		for char := -2; char <= unitsOf(s)+2; char++ {
			wantOffset(t, r, s, api.Pos{Line: line, Char: char})
		}
	}
	for at := -2; at <= len(s)+2; at++ {
		wantPos(t, r, s, at)
	}
	for _, n := range far() {
		wantStart(t, r, starts, n)
		wantPos(t, r, s, n)
		for _, m := range append(far(), 0, 1) {
			wantOffset(t, r, s, api.Pos{Line: n, Char: m})
			wantOffset(t, r, s, api.Pos{Line: m, Char: n})
		}
	}
}

func wantStart(t *testing.T, r *Rope, starts []int, line int) {
	t.Helper()
	want, is := 0, line >= 0 && line < len(starts)
	if is {
		want = starts[line]
	}
	if at, ok := r.Start(line); at != want || ok != is {
		t.Fatalf("%.80q: Start(%d): %d %v, not %d %v", r.Text(), line, at, ok, want, is)
	}
}

func wantOffset(t *testing.T, r *Rope, s string, p api.Pos) {
	t.Helper()
	if at := r.Offset(p); at != lines.Offset(s, p) {
		t.Fatalf("%.80q: Offset(%v): %d, not %d", s, p, at, lines.Offset(s, p))
	}
}

func wantPos(t *testing.T, r *Rope, s string, at int) {
	t.Helper()
	if p := r.Pos(at); p != lines.Pos(s, at) {
		t.Fatalf("%.80q: Pos(%d): %v, not %v", s, at, p, lines.Pos(s, at))
	}
}

// wantSlice asks for a span of the text, or for ErrRange: P9.3.
func wantSlice(t *testing.T, r *Rope, s string, from, to int) {
	t.Helper()
	want, no := "", api.ErrRange
	if fits(s, from, to) {
		want, no = s[from:to], api.OK
	}
	if got, e := r.Slice(from, to); got != want || e != no {
		t.Fatalf("%.80q: Slice(%d, %d): %.80q %d, not %.80q %d", s, from, to, got, e, want, no)
	}
}

// wantSplice asks for a Splice, and that the old rope is as it was; it returns the new rope and its text, or the old ones beside an error: P9.3.
func wantSplice(t *testing.T, r *Rope, old string, from, to int, s string) (*Rope, string) {
	t.Helper()
	want, no := splicedText(old, from, to, s)
	now, e := r.Splice(from, to, s)
	if e != no || (now == nil) != (no != api.OK) {
		t.Fatalf("%.80q: Splice(%d, %d, %.80q): %v, %d, not %d", old, from, to, s, now != nil, e, no)
	}
	wantCounts(t, r, old)
	if e != api.OK {
		return r, old
	}
	wantCounts(t, now, want)
	return now, want
}

// wantSound asks of the tree itself what the package rests on: sides of like depths, small leaves of whole characters, and counts that are true.
func wantSound(t *testing.T, r *Rope) {
	t.Helper()
	var walk func(n node) (deep int, text string)
	walk = func(n node) (deep int, text string) {
		switch x := n.(type) {
		case *leaf:
			deep, text = 1, x.text
			if text == "" || len(text) > most || !utf8.ValidString(text) {
				t.Fatalf("a leaf of %q", text)
			}
			if len(text) < most/2-utf8.UTFMax && n != r.root {
				t.Fatalf("%d bytes in a leaf of many", len(text))
			}
		case *inner:
			l, left := walk(x.left)
			r, right := walk(x.right)
			deep, text = 1+max(l, r), left+right
			if l-r > 1 || r-l > 1 || x.depth != deep {
				t.Fatalf("depth %d of %d and %d", x.depth, l, r)
			}
		}
		if c := (counts{len(text), unitsOf(text), len(startsOf(text)) - 1, strings.HasPrefix(text, "\n"), strings.HasSuffix(text, "\r")}); total(n) != c {
			t.Fatalf("%q: %v, not %v", text, total(n), c)
		}
		return deep, text
	}
	if deep, _ := walk(r.root); deep != r.Depth() {
		t.Fatalf("Depth %d of a tree of depth %d", r.Depth(), deep)
	}
}
