package edits

import (
	"math"
	"math/rand/v2"
	"strings"
	"testing"

	"glossator/api"
)

// span is a Span, and edit an Edit.
func span(from, to int) api.Span           { return api.Span{From: from, To: to} }
func edit(from, to int, s string) api.Edit { return api.Edit{From: from, To: to, Text: s} }

func TestAroundByHand(t *testing.T) { // P10.3
	for _, x := range []struct {
		l        []api.Edit
		old, now api.Span
	}{
		{nil, span(0, 0), span(0, 0)},
		{[]api.Edit{}, span(0, 0), span(0, 0)},
		{[]api.Edit{edit(4, 6, "abc")}, span(4, 6), span(4, 7)},
		{[]api.Edit{edit(4, 6, "abc"), edit(1, 2, "")}, span(1, 6), span(1, 6)},
		{[]api.Edit{edit(1, 1, "xx"), edit(3, 4, "")}, span(1, 2), span(1, 3)},
		{[]api.Edit{edit(0, 0, "")}, span(0, 0), span(0, 0)},
		{[]api.Edit{edit(7, 7, "")}, span(7, 7), span(7, 7)},
		{[]api.Edit{edit(5, 9, "")}, span(5, 9), span(5, 5)},
		{[]api.Edit{edit(5, 5, "é")}, span(5, 5), span(5, 7)},
		{[]api.Edit{edit(4, 6, "abc"), edit(9, 11, "x")}, span(4, 10), span(4, 10)}, // behind
		{[]api.Edit{edit(4, 6, "abc"), edit(7, 7, "x")}, span(4, 6), span(4, 8)},    // just behind
		{[]api.Edit{edit(4, 6, "abc"), edit(4, 4, "x")}, span(4, 6), span(4, 8)},    // just ahead
		{[]api.Edit{edit(4, 6, "abc"), edit(1, 1, "x")}, span(1, 6), span(1, 8)},    // ahead
		{[]api.Edit{edit(4, 6, "abc"), edit(5, 6, "")}, span(4, 6), span(4, 6)},     // within
		{[]api.Edit{edit(4, 6, "abc"), edit(5, 6, "xyz")}, span(4, 6), span(4, 9)},  // within, and longer
		{[]api.Edit{edit(4, 6, "abc"), edit(4, 7, "")}, span(4, 6), span(4, 4)},     // all of it
		{[]api.Edit{edit(4, 6, "abc"), edit(2, 9, "x")}, span(2, 8), span(2, 3)},    // across
		{[]api.Edit{edit(4, 6, "abc"), edit(2, 5, "")}, span(2, 6), span(2, 4)},     // across its beginning
		{[]api.Edit{edit(4, 6, "abc"), edit(6, 9, "")}, span(4, 8), span(4, 6)},     // across its end
		{[]api.Edit{edit(4, 4, "abc"), edit(4, 7, "")}, span(4, 4), span(4, 4)},     // there, and gone again
		{[]api.Edit{edit(4, 7, ""), edit(4, 4, "abc")}, span(4, 7), span(4, 7)},     // gone, and there again
		{[]api.Edit{edit(9, 9, "x"), edit(0, 0, "y"), edit(20, 21, "")}, span(0, 19), span(0, 20)},
	} {
		if old, now, e := Around(x.l); old != x.old || now != x.now || e != api.OK {
			t.Errorf("Around(%v): %v %v %d", x.l, old, now, e)
		}
		wantAround(t, x.l)
	}
}

// TestAroundSmall holds every list of up to three small edits against the reference.
func TestAroundSmall(t *testing.T) { // P10.3
	var all []api.Edit
	for from := range 5 {
		for to := from; to < 5; to++ {
			for _, s := range []string{"", "x", "yz\n"} {
				all = append(all, edit(from, to, s))
			}
		}
	}
	for _, a := range all {
		wantAround(t, []api.Edit{a})
		for _, b := range all {
			wantAround(t, []api.Edit{a, b})
			for _, c := range all {
				wantAround(t, []api.Edit{a, b, c})
			}
		}
	}
}

func TestAroundMany(t *testing.T) { // P10.3: longer lists, small and great numbers
	random := rand.New(rand.NewPCG(10, 3))
	for n := range 2000 {
		reach := []int{3, 10, 1000, 1 << 40}[n%4]
		l := make([]api.Edit, random.IntN(40))
		for i := range l {
			from := random.IntN(reach)
			l[i] = edit(from, from+random.IntN(reach-from+1), strings.Repeat("t", random.IntN(9)))
		}
		wantAround(t, l)
	}
}

// TestAroundWrong has a wrong edit, or one that is just right, in each place of a list.
func TestAroundWrong(t *testing.T) { // P10.3
	const most = 1 << 40
	for _, x := range []struct {
		d api.Edit
		e api.Errno
	}{
		{edit(-1, 0, ""), api.ErrArg}, {edit(-1, -1, "x"), api.ErrArg}, {edit(math.MinInt, math.MinInt, ""), api.ErrArg}, {edit(math.MinInt, math.MaxInt, ""), api.ErrArg}, {edit(-1, most+1, ""), api.ErrArg},
		{edit(2, 1, ""), api.ErrArg}, {edit(0, -1, ""), api.ErrArg}, {edit(math.MaxInt, 0, ""), api.ErrArg}, {edit(0, math.MinInt, ""), api.ErrArg}, {edit(most, most-1, ""), api.ErrArg},
		{edit(0, most+1, ""), api.ErrArg}, {edit(most, most+1, "x"), api.ErrArg}, {edit(most+1, most+1, ""), api.ErrArg}, {edit(most+1, most, ""), api.ErrArg}, {edit(0, math.MaxInt, ""), api.ErrArg}, {edit(math.MaxInt, math.MaxInt, "x"), api.ErrArg},
		{edit(0, 0, ""), api.OK}, {edit(0, most, ""), api.OK}, {edit(most, most, ""), api.OK}, {edit(most, most, "xyz"), api.OK}, {edit(most-1, most, "x"), api.OK},
	} {
		for n := 1; n < 6; n++ {
			for i := range n {
				l := times(n, edit(3, 4, "xyz"))
				l[i] = x.d
				if _, _, e := Around(l); e != x.e {
					t.Errorf("Around(%v): %d", l, e)
				}
				wantAround(t, l)
			}
		}
	}
}

func TestAroundHowMany(t *testing.T) { // P10.3: 2^16 edits, and one more
	for _, d := range []api.Edit{edit(0, 0, ""), edit(3, 4, "xyz"), edit(1<<40, 1<<40, "x"), edit(0, 1<<40, "")} {
		for _, n := range []int{1<<16 - 1, 1 << 16, 1<<16 + 1, 1<<16 + 2, 1 << 17} {
			l := times(n, d)
			if _, _, e := Around(l); (e == api.OK) != (n <= 1<<16) || e != api.OK && e != api.ErrFull {
				t.Errorf("Around of %d edits: %d", n, e)
			}
			wantAround(t, l)
			for _, i := range []int{0, 1, n / 2, n - 2, n - 1} { // ErrArg comes before ErrFull
				for _, wrong := range []api.Edit{edit(-1, 0, ""), edit(1, 0, ""), edit(0, 1<<40+1, "")} {
					l[i] = wrong
					if old, now, e := Around(l); old != span(0, 0) || now != span(0, 0) || e != api.ErrArg {
						t.Errorf("Around of %d edits, of which the %d is %v: %v %v %d", n, i, wrong, old, now, e)
					}
				}
				l[i] = d
			}
		}
	}
}

// TestAroundApart asks of edits in two halves of a text that the middle is affected, and what is around both is not.
func TestAroundApart(t *testing.T) { // P10.4
	const first = "let x = 1;\nlet y = 2;\n"
	for _, l := range [][]api.Edit{
		{edit(4, 5, "abc"), edit(17, 18, "d")}, {edit(15, 16, "d"), edit(4, 5, "abc")}, {edit(0, 0, "x"), edit(23, 23, "y")}, {edit(0, 22, ""), edit(0, 0, first)}, {edit(0, 22, first)}, {edit(22, 22, first), edit(0, 44, "")},
	} {
		last := first
		for _, d := range l {
			last = replaced(last, d)
		}
		wantOutside(t, first, last, l)
	}
}
