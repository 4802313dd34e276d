package lines

import (
	"math"
	"slices"
	"strings"
	"testing"
	"unicode/utf8"

	"glossator/api"
)

// sample is the text of the chapter's examples: its lines begin at 0, 4 and 12.
const sample = "ab\r\né\U0001F600c\n"

func TestStarts(t *testing.T) { // P2.1
	for s, want := range map[string][]int{
		sample: {0, 4, 12}, "": {0}, "\r": {0, 1}, "\r\r\n": {0, 1, 3}, "\n": {0, 1}, "\r\n": {0, 2},
		"a": {0}, "a\n": {0, 2}, "a\nb": {0, 2}, "a\rb": {0, 2}, "a\r\nb": {0, 3},
		"\n\r": {0, 1, 2}, "\n\r\n": {0, 1, 3}, "\r\n\n": {0, 2, 3}, "\r\n\r\n": {0, 2, 4}, "\r\n\r": {0, 2, 3},
		"\n\n\n": {0, 1, 2, 3}, "\r\r\r": {0, 1, 2, 3},
		"a\u2028b\u0085c\vd\fe": {0}, // no line ends, whatever Unicode says
		"\xff\n\xf0\x9f\r\x98":  {0, 2, 5},
	} {
		if got := Starts(s); !slices.Equal(got, want) {
			t.Errorf("Starts(%q): %v, not %v", s, got, want)
		}
		if got := Many(s); got != len(want) {
			t.Errorf("Many(%q): %d, not %d", s, got, len(want))
		}
	}
}

func TestStartsAreNewMemory(t *testing.T) { // P0.4
	first := Starts(sample)
	first = append(first[:1], 7, 7, 7)
	if got := Starts(sample); !slices.Equal(got, []int{0, 4, 12}) {
		t.Errorf("after a change to %v: %v", first, got)
	}
}

func TestLine(t *testing.T) { // P2.2
	for _, c := range []struct {
		s    string
		n    int
		want api.Span
		ok   bool
	}{
		{sample, 0, api.Span{From: 0, To: 2}, true}, {sample, 1, api.Span{From: 4, To: 11}, true}, {sample, 2, api.Span{From: 12, To: 12}, true},
		{sample, 3, api.Span{}, false}, {sample, -1, api.Span{}, false},
		{sample, math.MaxInt, api.Span{}, false}, {sample, math.MinInt, api.Span{}, false},
		{"", 0, api.Span{}, true}, {"", 1, api.Span{}, false}, {"", -1, api.Span{}, false},
		{"a\rb", 0, api.Span{From: 0, To: 1}, true}, {"a\rb", 1, api.Span{From: 2, To: 3}, true}, {"a\rb", 2, api.Span{}, false},
		{"\r\r\n", 1, api.Span{From: 1, To: 1}, true}, {"\r\r\n", 2, api.Span{From: 3, To: 3}, true},
		{"\n\r", 1, api.Span{From: 1, To: 1}, true}, {"\n\r", 2, api.Span{From: 2, To: 2}, true},
		{"\xff\n\xf0\x9f\r", 1, api.Span{From: 2, To: 4}, true},
	} {
		if got, ok := Line(c.s, c.n); got != c.want || ok != c.ok {
			t.Errorf("Line(%q, %d): %v %v, not %v %v", c.s, c.n, got, ok, c.want, c.ok)
		}
	}
}

func TestOffset(t *testing.T) { // P2.3
	for _, c := range []struct {
		s                string
		line, char, want int
	}{
		{sample, 0, 1, 1}, {sample, 0, 9, 2}, {sample, 1, 0, 4}, {sample, 1, 1, 6}, {sample, 1, 3, 10}, {sample, 1, 4, 11},
		{sample, 1, 2, 6}, // inside a character
		{sample, 2, 0, 12}, {sample, 2, 5, 12}, {sample, 3, 0, 12}, {sample, -1, 1, 1}, {sample, 1, -1, 4},
		{sample, math.MaxInt, 0, 12}, {sample, math.MinInt, 1, 1}, {sample, math.MinInt, math.MinInt, 0},
		{sample, 1, math.MaxInt, 11}, {sample, 1, math.MinInt, 4}, {sample, math.MaxInt, math.MinInt, 12},
		{"", 0, 0, 0}, {"", 0, 1, 0}, {"", 1, 0, 0}, {"", -1, -1, 0},
		{"a\r\r\nb", 0, 5, 1}, {"a\r\r\nb", 1, 5, 2}, {"a\r\r\nb", 2, 5, 5}, {"a\r\r\nb", 3, 0, 5},
		{"\xff\xc3é\nb", 0, 2, 2}, {"\xff\xc3é\nb", 0, 3, 4}, {"\xff\xc3é\nb", 0, 4, 4}, {"a\n\xf0\x9f\x98\n", 1, 2, 4},
	} {
		if got := Offset(c.s, api.Pos{Line: c.line, Char: c.char}); got != c.want {
			t.Errorf("Offset(%q, %d %d): %d, not %d", c.s, c.line, c.char, got, c.want)
		}
	}
}

func TestPos(t *testing.T) { // P2.4
	for _, c := range []struct {
		s              string
		at, line, char int
	}{
		{sample, 0, 0, 0}, {sample, 2, 0, 2}, {sample, 4, 1, 0}, {sample, 6, 1, 1}, {sample, 10, 1, 3}, {sample, 11, 1, 4}, {sample, 12, 2, 0},
		{sample, 3, 0, 2},                                       // inside a line end
		{sample, 5, 1, 0}, {sample, 8, 1, 1}, {sample, 9, 1, 1}, // inside a character
		{sample, 13, 2, 0}, {sample, 99, 2, 0}, {sample, -5, 0, 0}, {sample, math.MaxInt, 2, 0}, {sample, math.MinInt, 0, 0},
		{"", 0, 0, 0}, {"", 1, 0, 0}, {"", -1, 0, 0},
		{"a\n\r\n", 1, 0, 1}, {"a\n\r\n", 2, 1, 0}, {"a\n\r\n", 3, 1, 0}, {"a\n\r\n", 4, 2, 0},
		{"a\rb", 1, 0, 1}, {"a\rb", 2, 1, 0}, {"a\rb", 3, 1, 1}, {"ab", 2, 0, 2}, {"ab", 3, 0, 2},
		{"\xff\xf0\x9f\x98b", 3, 0, 3}, {"\xff\xf0\x9f\x98b", 4, 0, 4}, {"\r\n\xff\n", 3, 1, 1}, {"\r\n\xff\n", 4, 2, 0},
	} {
		if got := Pos(c.s, c.at); got != (api.Pos{Line: c.line, Char: c.char}) {
			t.Errorf("Pos(%q, %d): %v, not %d %d", c.s, c.at, got, c.line, c.char)
		}
	}
}

func TestOffsets(t *testing.T) { // P2.5
	for _, c := range []struct {
		start, end api.Pos
		want       api.Span
	}{
		{api.Pos{Line: 1, Char: 1}, api.Pos{Line: 0, Char: 1}, api.Span{From: 1, To: 6}},
		{api.Pos{Line: 0, Char: 1}, api.Pos{Line: 1, Char: 1}, api.Span{From: 1, To: 6}},
		{api.Pos{Line: 1, Char: 3}, api.Pos{Line: 1, Char: 1}, api.Span{From: 6, To: 10}},
		{api.Pos{Line: 1, Char: 1}, api.Pos{Line: 1, Char: 2}, api.Span{From: 6, To: 6}},
		{api.Pos{Line: 0, Char: 9}, api.Pos{Line: 0, Char: 7}, api.Span{From: 2, To: 2}},
		{api.Pos{Line: 7, Char: 0}, api.Pos{Line: -7, Char: 0}, api.Span{From: 0, To: 12}},
		{api.Pos{Line: -1, Char: -1}, api.Pos{Line: math.MaxInt, Char: math.MaxInt}, api.Span{From: 0, To: 12}},
		{api.Pos{Line: math.MaxInt, Char: math.MinInt}, api.Pos{Line: math.MinInt, Char: math.MaxInt}, api.Span{From: 2, To: 12}},
	} {
		if got := Offsets(sample, api.Range{Start: c.start, End: c.end}); got != c.want {
			t.Errorf("Offsets(%v, %v): %v, not %v", c.start, c.end, got, c.want)
		}
	}
	if got := Offsets("", api.Range{Start: api.Pos{Line: 3, Char: 1}}); got != (api.Span{}) {
		t.Errorf("Offsets of the empty text: %v", got)
	}
}

// TestAgainstReference holds every call against the reference: P2.1 to P2.5, each text of up to four pieces.
func TestAgainstReference(t *testing.T) {
	eachText(4, func(s string) {
		l := places(s)
		checkLines(t, s, l)
		checkPositions(t, s, l)
		if t.Failed() {
			t.FailNow()
		}
	})
}

func checkLines(t *testing.T, s string, l []place) {
	want, contents := startsOf(l), contentsOf(s)
	if got := Starts(s); !slices.Equal(got, want) {
		t.Errorf("Starts(%q): %v, not %v", s, got, want)
	}
	if got := Many(s); got != len(contents) {
		t.Errorf("Many(%q): %d, not %d", s, got, len(contents))
	}
	for n, content := range contents {
		span := api.Span{From: want[n], To: want[n] + len(content)}
		if got, ok := Line(s, n); got != span || !ok || s[got.From:got.To] != content {
			t.Errorf("Line(%q, %d): %v %v, not %v", s, n, got, ok, span)
		}
	}
	for _, n := range []int{-1, len(contents), len(contents) + 1} {
		if got, ok := Line(s, n); got != (api.Span{}) || ok {
			t.Errorf("Line(%q, %d): %v %v", s, n, got, ok)
		}
	}
}

func checkPositions(t *testing.T, s string, l []place) {
	for at := -1; at <= len(s)+1; at++ {
		if got, want := Pos(s, at), posOf(l, at); got != want {
			t.Errorf("Pos(%q, %d): %v, not %v", s, at, got, want)
		}
	}
	eachPos(s, func(p api.Pos) {
		at := offsetOf(l, p)
		if got := Offset(s, p); got != at {
			t.Errorf("Offset(%q, %v): %d, not %d", s, p, got, at)
		}
		for _, x := range l {
			if insideEnd(s, x.at) {
				continue // no position leads there
			}
			want := api.Span{From: min(at, x.at), To: max(at, x.at)}
			if got := Offsets(s, api.Range{Start: p, End: x.pos}); got != want {
				t.Errorf("Offsets(%q, %v to %v): %v, not %v", s, p, x.pos, got, want)
			}
		}
	})
}

func TestRoundTripOfOffsets(t *testing.T) { // P2.6
	eachText(4, func(s string) {
		begin := 0
		for at := 0; at <= len(s); at++ {
			if at == len(s) || beginsAt(s, at) {
				begin = at
			}
			want := begin
			if insideEnd(s, at) {
				want = at - 1
			}
			if got := Offset(s, Pos(s, at)); got != want {
				t.Fatalf("%q: %d leads to %v and to %d, not %d", s, at, Pos(s, at), got, want)
			}
		}
	})
}

func TestRoundTripOfPositions(t *testing.T) { // P2.6
	eachText(4, func(s string) {
		within := map[api.Pos]bool{}
		for _, x := range places(s) {
			within[x.pos] = true
		}
		eachPos(s, func(p api.Pos) {
			clamped := Pos(s, Offset(s, p))
			if !within[clamped] || within[p] && clamped != p {
				t.Fatalf("%q: %v is clamped to %v", s, p, clamped)
			}
			if Offset(s, clamped) != Offset(s, p) {
				t.Fatalf("%q: %v leads to %d, clamped to %v it leads to %d", s, p, Offset(s, p), clamped, Offset(s, clamped))
			}
		})
	})
}

// insideEnd reports whether the offset is between a byte 13 and a byte 10.
func insideEnd(s string, at int) bool {
	return strings.HasSuffix(s[:at], "\r") && strings.HasPrefix(s[at:], "\n")
}

// beginsAt reports whether a character or an invalid byte begins at the offset.
func beginsAt(s string, at int) bool {
	for i := range s {
		if i == at {
			return true
		}
	}
	return false
}

func TestLinesMakeTheText(t *testing.T) { // P2.7
	eachText(5, func(s string) {
		at := 0
		for n := range Many(s) {
			content, ok := Line(s, n)
			if !ok || content.From != at || strings.ContainsAny(s[content.From:content.To], "\r\n") {
				t.Fatalf("%q: line %d is %v %v, not from %d on", s, n, content, ok, at)
			}
			at = content.To
			for _, end := range []string{"\r\n", "\r", "\n"} {
				if strings.HasPrefix(s[at:], end) {
					at += len(end)
					break
				}
			}
			if last := n == Many(s)-1; last != (at == content.To) {
				t.Fatalf("%q: the end of line %d of %d is from %d to %d", s, n, Many(s), content.To, at)
			}
		}
		if at != len(s) {
			t.Fatalf("%q: its lines reach to %d", s, at)
		}
	})
}

func TestMonotonicity(t *testing.T) { // P2.8
	eachText(5, func(s string) {
		before := Pos(s, 0)
		for at := 1; at <= len(s); at++ {
			p := Pos(s, at)
			if !notGreater(before, p) {
				t.Fatalf("%q: %v before %d, %v there", s, before, at, p)
			}
			before = p
		}
	})
}

// TestLong has texts as long as a message may be: one line, and a line for each byte.
func TestLong(t *testing.T) {
	const n = api.MaxJSON
	one := strings.Repeat("\U0001F600", n/utf8.UTFMax)
	if Many(one) != 1 || Pos(one, n-1) != (api.Pos{Char: n/2 - 2}) || Offset(one, api.Pos{Char: n/2 - 1}) != n-4 {
		t.Errorf("one line of %d bytes: %d lines, %v", n, Many(one), Pos(one, n-1))
	}
	ends := strings.Repeat("\r", n-1) + "\n"
	if Many(ends) != n || len(Starts(ends)) != n || Pos(ends, n) != (api.Pos{Line: n - 1}) || Offset(ends, api.Pos{Line: n - 2, Char: 5}) != n-2 {
		t.Errorf("%d line ends: %d lines, %v", n-1, Many(ends), Pos(ends, n))
	}
}
