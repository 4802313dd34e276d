package relex

import (
	"math"
	"math/rand/v2"
	"slices"
	"strings"
	"testing"

	"glossator/api"
	"glossator/lex"
)

// TestWrongTokens puts a wrong token in each place of a list, with right spans and with wrong ones.
func TestWrongTokens(t *testing.T) { // P13.1
	const most = 1 << 40
	text := "a b;c"
	for _, bad := range []api.Token{
		{Kind: api.TkName}, {Kind: api.TkName, Width: -1}, {Width: math.MinInt, Look: 1}, {Width: most + 1}, {Width: math.MaxInt}, {Look: 1},
		{Width: 1, Look: -1}, {Width: 1, Look: math.MinInt}, {Width: 1, Look: most + 1}, {Width: 1, Look: math.MaxInt}, {Width: 0, Look: -1}, {Width: most + 1, Look: most + 1},
		{Width: -1 << 63, Look: 0}, {Width: 1<<32 + most, Look: 0},
	} {
		for n := range 5 {
			was := lex.All(text)
			was[n] = bad
			for _, x := range [][2]api.Span{{span(0, 0), span(0, 0)}, {span(2, 3), span(2, 3)}, {span(0, 5), span(0, 5)}, {span(1, 0), span(0, 1)}, {span(-1, 0), span(-1, 0)}, {span(0, 9), span(0, 9)}} {
				if got := asked(was, text, x[0], x[1]); !got.same(answer{e: api.ErrTokens}) {
					t.Fatalf("%v in place %d, %v: %v", bad, n, x, got)
				}
			}
			if got := asked(was, "", span(0, 0), span(0, 0)); got.e != api.ErrTokens {
				t.Fatalf("%v in place %d: %v", bad, n, got)
			}
		}
	}
}

// TestMostWidthAndLook has the numbers that are just right, in each place.
func TestMostWidthAndLook(t *testing.T) { // P13.1
	const most = 1 << 40
	for n := range 4 {
		was := ofWidths(1, 2, 1, 3)
		was[n].Look = most
		if got := asked(was, "a bc ;;", span(3, 4), span(3, 4)); got.e != api.OK || got.first != min(n, 1) {
			t.Errorf("a Look of 2^40 in place %d: %v", n, got)
		}
		was[n].Look = 0
		if got := asked(was, "a bc ;;", span(3, 4), span(3, 4)); got.e != api.OK {
			t.Errorf("a Look of 0 in place %d: %v", n, got)
		}
		was[n].Width = most
		long := begins(was)[4]
		if got := asked(was, "ab", span(0, long), span(0, 2)); got.e != api.OK || got.first != 0 || got.oldEnd != 4 || got.newEnd != 1 || !lex.Right("ab", got.is) {
			t.Errorf("a Width of 2^40 in place %d: %v", n, got)
		}
		if got := asked(was, "ab", span(0, long-1), span(0, 2)); !got.same(answer{e: api.ErrArg}) {
			t.Errorf("a Width of 2^40 in place %d: %v", n, got)
		}
	}
	all := times(4, api.Token{Width: most, Look: most})
	wantAny(t, all, "", span(0, 4*most), span(0, 0))
	wantAny(t, all, "a", span(0, 4*most-1), span(0, 0))
	wantAny(t, all, "a", span(0, 4*most+1), span(0, 1))
}

func TestManyTokens(t *testing.T) { // P13.1
	text := strings.Repeat(";", 1<<20)
	semi := api.Token{Kind: api.TkSemi, Width: 1}
	was := times(1<<20, semi)
	if got := asked(was, text, span(1<<19, 1<<19), span(1<<19, 1<<19)); got.e != api.OK || !slices.Equal(got.is, was) || got.first != 1<<19 || got.newEnd != 1<<19 || got.oldEnd != 1<<19 {
		t.Errorf("2^20 tokens: %d %d %d %d", got.first, got.oldEnd, got.newEnd, got.e)
	}
	if got := asked(was, text+";", span(1, 1), span(1, 2)); got.e != api.OK || len(got.is) != 1<<20+1 || got.first != 1 || got.newEnd != 2 || got.oldEnd != 1 {
		t.Errorf("2^20 tokens, and one more behind: %d %d %d %d", got.first, got.oldEnd, got.newEnd, got.e)
	}
	was = append(was, semi)
	for _, x := range [][2]api.Span{{span(0, 0), span(0, 0)}, {span(1, 0), span(2, 3)}, {span(0, 1<<20+1), span(0, 1<<20+1)}} {
		if got := asked(was, text+";", x[0], x[1]); !got.same(answer{e: api.ErrTokens}) {
			t.Errorf("2^20 + 1 tokens, %v: %d", x, got.e)
		}
	}
	wide := times(1<<20, api.Token{Width: 1 << 40})
	if got := asked(wide, "a", span(0, 1<<60), span(0, 1)); got.e != api.OK || !lex.Right("a", got.is) || got.oldEnd != 1<<20 {
		t.Errorf("2^60 bytes: %v", got)
	}
	if got := asked(wide, "a", span(0, 1<<60-1), span(0, 0)); got.e != api.OK || len(got.is) > 1 {
		t.Errorf("2^60 bytes: %v", got)
	}
	if got := asked(wide, "a", span(0, 0), span(0, 0)); got.e != api.ErrArg {
		t.Errorf("2^60 bytes: %v", got)
	}
}

func TestWrongSpansByHand(t *testing.T) { // P13.1
	for _, x := range []struct {
		from, to string
		old, now api.Span
	}{
		{"a b", "a b", span(1, 1), span(0, 1)}, // From differs
		{"a b", "a b", span(0, 1), span(1, 1)},
		{"a b", "a b", span(-1, 1), span(-1, 1)}, // below 0
		{"a b", "a b", span(-1, -1), span(-1, -1)},
		{"a b", "a b", span(2, 1), span(2, 1)}, // behind To
		{"a b", "a  b", span(2, 2), span(2, 1)},
		{"a b", "a b", span(2, 1), span(2, 2)},
		{"a b", "a b", span(1, 4), span(1, 4)}, // behind both texts' ends
		{"a b", "a", span(1, 4), span(1, 2)},
		{"a b", "a b", span(4, 4), span(4, 4)},
		{"a b", "a bc", span(1, 1), span(1, 1)}, // not equally many bytes follow
		{"a b", "a bc", span(3, 3), span(3, 3)},
		{"a b", "a bc", span(3, 3), span(3, 5)},
		{"a b", "", span(0, 3), span(0, 1)},
		{"a b", "", span(0, 2), span(0, 0)},
		{"", "a", span(0, 0), span(0, 0)},
		{"", "", span(0, 1), span(0, 1)},
		{"", "", span(1, 1), span(1, 1)},
		{"", "", span(0, -1), span(0, -1)},
		{"", "", span(math.MinInt, math.MaxInt), span(math.MinInt, math.MaxInt)},
	} {
		if got := asked(lex.All(x.from), x.to, x.old, x.now); !got.same(answer{e: api.ErrArg}) {
			t.Errorf("%q, %q, %v %v: %v", x.from, x.to, x.old, x.now, got)
		}
	}
}

// TestAllSpans asks with every pair of spans in and around some texts: for those that fit, each text is one of any tokens' list.
func TestAllSpans(t *testing.T) { // P13.1
	for _, x := range [][2]string{{"", ""}, {"", "a"}, {"a", ""}, {"ab", "ab"}, {"a b", "a"}, {"/*", "a*/"}, {"\"a;", "a;"}} {
		was := lex.All(x[0])
		for n := range 1 << 12 {
			number := func(i int) int { return n>>(3*i)&7 - 2 }
			wantAny(t, was, x[1], span(number(0), number(1)), span(number(2), number(3)))
		}
	}
}

func TestFarSpans(t *testing.T) { // P13.1
	was, text := lex.All("a b;"), "a bc;"
	for _, n := range far() {
		for _, m := range append(far(), 0, 1, 3, 5) {
			for _, x := range [][2]api.Span{{span(n, m), span(n, m)}, {span(m, n), span(m, n)}, {span(n, 3), span(n, 4)}, {span(0, n), span(0, m)}, {span(0, n), span(0, n+1)}, {span(m, 3), span(n, 4)}, {span(3, 3), span(3, n)}, {span(3, n), span(3, 4)}} {
				wantAny(t, was, text, x[0], x[1])
			}
		}
	}
}

// TestOtherLists passes lists of no text, or of other texts than that ahead of the edit.
func TestOtherLists(t *testing.T) { // P13.1
	random := rand.New(rand.NewPCG(13, 2))
	for range 40000 {
		was := make([]api.Token, random.IntN(30))
		for i := range was {
			was[i] = api.Token{Kind: uint8(random.Uint32()), Width: 1 + random.IntN(1+random.IntN(40)), Look: random.IntN(1 + random.IntN(20))}
		}
		wantList(t, random, was)
		other := lex.All(anyText(random, random.IntN(30), true))
		wantList(t, random, other)
		if len(other) > 0 {
			other[random.IntN(len(other))].Look = random.IntN(1 << 40)
			other[random.IntN(len(other))].Width += random.IntN(4)
		}
		wantList(t, random, other)
		wantAny(t, other, "a b", span(random.IntN(4), random.IntN(9)), span(random.IntN(4), random.IntN(4)))
	}
}

// wantList asks with spans of the list's length, and a text of which equally many bytes follow them.
func wantList(t *testing.T, random *rand.Rand, was []api.Token) {
	t.Helper()
	long := begins(was)[len(was)]
	from := random.IntN(long + 1)
	to := from + random.IntN(long-from+1)
	text := anyText(random, 1+(long-to+from)/2+random.IntN(20), random.IntN(2) == 0)
	for len(text) < from+long-to {
		text += anyText(random, 3, true)
	}
	wantAny(t, was, text, span(from, to), span(from, len(text)-(long-to)))
}
