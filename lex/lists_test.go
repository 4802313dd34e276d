package lex

import (
	"math"
	"slices"
	"testing"

	"glossator/api"
)

// places are those around each end of the spans, and far from them.
func places(spans []api.Span) []int {
	l := append(far(), -2, -1, 0, 1, 2)
	for _, x := range spans {
		for by := -1; by < 3; by++ {
			l = append(l, x.From+by, x.To+by)
		}
	}
	return l
}

func wantPlaces(t *testing.T, l []api.Token) {
	t.Helper()
	want := wantSpans(l)
	if got := Spans(l); !slices.Equal(got, want) {
		t.Fatalf("Spans(%v): %v, not %v", l, got, want)
	}
	for _, place := range places(want) {
		if At(l, place) != wantAt(want, place) {
			t.Fatalf("At(%v, %d): %d, not %d", l, place, At(l, place), wantAt(want, place))
		}
	}
}

func TestSpans(t *testing.T) { // P12.2
	for _, l := range anyLists() {
		wantPlaces(t, l)
	}
	for _, s := range append(append(programs(), unended()...), mixed(100, 30)...) {
		wantPlaces(t, wantAll(s))
		wantPlaces(t, All(s))
	}
}

func TestSpansByHand(t *testing.T) { // P12.2
	const most = 1 << 40
	for _, x := range []struct {
		widths []int
		spans  []api.Span
	}{
		{[]int{2, 0, 3}, []api.Span{{From: 0, To: 2}, {From: 2, To: 2}, {From: 2, To: 5}}},
		{[]int{-5, 2, math.MinInt, 1}, []api.Span{{From: 0, To: 0}, {From: 0, To: 2}, {From: 2, To: 2}, {From: 2, To: 3}}},
		{[]int{most, 1}, []api.Span{{From: 0, To: most}, {From: most, To: most}}},
		{[]int{most - 1, 1, 1}, []api.Span{{From: 0, To: most - 1}, {From: most - 1, To: most}, {From: most, To: most}}},
		{[]int{most + 1}, []api.Span{{From: 0, To: most}}},
		{[]int{1, most, 1}, []api.Span{{From: 0, To: 1}, {From: 1, To: most}, {From: most, To: most}}},
		{[]int{math.MaxInt, math.MaxInt, -1, math.MaxInt}, []api.Span{{From: 0, To: most}, {From: most, To: most}, {From: most, To: most}, {From: most, To: most}}},
		{[]int{7, math.MaxInt - 7, 1}, []api.Span{{From: 0, To: 7}, {From: 7, To: most}, {From: most, To: most}}},
	} {
		if got := Spans(ofWidths(x.widths...)); !slices.Equal(got, x.spans) {
			t.Errorf("Spans of %v: %v", x.widths, got)
		}
	}
}

func TestAtByHand(t *testing.T) { // P12.2
	const most = 1 << 40
	for _, x := range []struct {
		widths []int
		at     map[int]int
	}{
		{[]int{2, 0, 3}, map[int]int{math.MinInt: -1, -1: -1, 0: 0, 1: 0, 2: 2, 3: 2, 4: 2, 5: -1, 6: -1, math.MaxInt: -1, 1 << 32: -1}},
		{[]int{0, -4, 1}, map[int]int{-4: -1, -1: -1, 0: 2, 1: -1}},
		{[]int{0}, map[int]int{-1: -1, 0: -1, 1: -1}},
		{[]int{-1}, map[int]int{-1: -1, 0: -1, 1: -1}},
		{[]int{most}, map[int]int{-1: -1, 0: 0, most - 1: 0, most: -1, most + 1: -1}},
		{[]int{most - 1, 5, 9}, map[int]int{most - 2: 0, most - 1: 1, most: -1, most + 4: -1, most + 5: -1, math.MaxInt: -1}},
		{[]int{math.MaxInt, math.MaxInt}, map[int]int{-2: -1, -1: -1, 0: 0, most - 1: 0, most: -1, math.MaxInt - 1: -1, math.MaxInt: -1}},
	} {
		for place, want := range x.at {
			if got := At(ofWidths(x.widths...), place); got != want {
				t.Errorf("At(%v, %d): %d, not %d", x.widths, place, got, want)
			}
		}
	}
}

// TestAtEachByte asks for the token at each byte of a text, and around.
func TestAtEachByte(t *testing.T) { // P12.2
	for _, s := range append(append(programs(), unended()...), mixed(50, 60)...) {
		l := All(s)
		at := 0
		for i, x := range l {
			for range x.Width {
				if At(l, at) != i {
					t.Fatalf("%.80q: At(%d): %d, not %d", s, at, At(l, at), i)
				}
				at++
			}
		}
		for _, place := range append(far(), len(s), len(s)+1, -1) {
			if (place < 0 || place >= len(s)) && At(l, place) != -1 {
				t.Fatalf("%.80q: At(%d): %d", s, place, At(l, place))
			}
		}
	}
}

func TestCounts(t *testing.T) { // P12.3
	many := 0
	for kind := range 256 {
		if got := Counts(uint8(kind)); got != wantCounts(uint8(kind)) {
			t.Errorf("Counts(%d): %v", kind, got)
		}
		if Counts(uint8(kind)) {
			many++
		}
	}
	if many != 3+8+21 { // names, numbers and texts; keywords; operators and brackets
		t.Errorf("%d kinds count", many)
	}
	for _, kind := range []uint8{0, api.TkBlank, api.TkLine, api.TkBlock, api.TkOpen, api.TkOdd, api.TkBroken, 18, 19, 41, api.NkMissing, api.NkFile, api.NkError, 255} {
		if Counts(kind) {
			t.Errorf("%d counts", kind)
		}
	}
}

func wantNexts(t *testing.T, l []api.Token) {
	t.Helper()
	for _, n := range append(far(), len(l)-1, len(l), len(l)+1) {
		if Next(l, n) != wantNext(l, n) {
			t.Fatalf("Next(%.400v, %d): %d, not %d", l, n, Next(l, n), wantNext(l, n))
		}
	}
	for n := -3; n < min(len(l), 200)+3; n++ {
		if Next(l, n) != wantNext(l, n) {
			t.Fatalf("Next(%.400v, %d): %d, not %d", l, n, Next(l, n), wantNext(l, n))
		}
	}
}

func TestNext(t *testing.T) { // P12.3
	for _, l := range anyLists() {
		wantNexts(t, l)
	}
	for _, s := range append(append(programs(), unended()...), mixed(50, 60)...) {
		wantNexts(t, All(s))
	}
	var all []api.Token // of each kind, in both orders
	for kind := range 256 {
		all = append(all, api.Token{Kind: uint8(kind)})
		wantNexts(t, []api.Token{{Kind: uint8(kind)}})
	}
	wantNexts(t, all)
	slices.Reverse(all)
	wantNexts(t, all)
}

func TestNextByHand(t *testing.T) { // P12.3
	l := All(" /**/a //\n\"#\n;\"")
	for n, want := range map[int]int{math.MinInt: 2, -1: 2, 0: 2, 1: 2, 2: 2, 3: 8, 7: 8, 8: 8, 9: 10, 10: 10, 11: 10, math.MaxInt: 10, 1 << 32: 10} {
		if Next(l, n) != want {
			t.Errorf("Next(%v, %d): %d, not %d", l, n, Next(l, n), want)
		}
	}
}

// TestNextOverAll goes from each token that counts to the next, which leaves out just the trivia.
func TestNextOverAll(t *testing.T) { // P12.3
	for _, s := range texts() {
		l := All(s)
		var went []int
		for n := Next(l, 0); n < len(l); n = Next(l, n+1) {
			went = append(went, n)
		}
		var want []int
		for i, x := range l {
			if wantCounts(x.Kind) {
				want = append(want, i)
			}
		}
		if !slices.Equal(went, want) {
			t.Fatalf("%.80q: %v, not %v", s, went, want)
		}
	}
}

// within is the list as a part of a longer one: what stands ahead of it and behind it must stay.
func within(l []api.Token) (whole, part []api.Token) {
	edge := api.Token{Kind: 99, Width: 98, Look: 97}
	whole = append(append([]api.Token{edge, edge}, l...), edge, edge, edge)
	return whole, whole[2 : 2+len(l)]
}

func TestArguments(t *testing.T) { // P0.4: what comes in stays as it is
	for _, l := range append(anyLists()[:400], All(programs()[0]), All("let x1=-2;")) {
		whole, part := within(l)
		kept := slices.Clone(whole)
		Right("let x1=-2;", part)
		Right("", part)
		Spans(part)
		for _, n := range []int{-1, 0, 3, len(l), len(l) + 2, 1 << 40} {
			At(part, n)
			Next(part, n)
		}
		if !slices.Equal(whole, kept) {
			t.Fatalf("%v became %v", kept, whole)
		}
	}
}

// TestOwnLists overwrites each list that was returned, up to its capacity: no other one, and no later answer, changes.
func TestOwnLists(t *testing.T) { // P0.4
	for _, s := range append(append(programs(), unended()...), "", "a", "let x1=-2;") {
		want := wantAll(s)
		first, second := All(s), All(s)
		clear(first[:cap(first)])
		if !slices.Equal(second, want) {
			t.Fatalf("%.80q: a list that was returned changed to %v", s, second)
		}
		wantTokens(t, s, want)
		one, two := Spans(second), Spans(second)
		clear(one[:cap(one)])
		if !slices.Equal(two, wantSpans(want)) || !slices.Equal(second, want) {
			t.Fatalf("%.80q: spans that were returned changed to %v, or tokens to %v", s, two, second)
		}
		clear(second[:cap(second)])
		if !slices.Equal(two, wantSpans(want)) {
			t.Fatalf("%.80q: spans hang on the tokens they were made of: %v", s, two)
		}
		wantPlaces(t, want)
	}
}
