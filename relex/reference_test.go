package relex

import (
	"slices"
	"testing"

	"glossator/api"
	"glossator/lex"
)

// The reference: all tokens anew, and the numbers of an edit by all offsets at which a token begins, in the chapter's words.

// begins are the offsets at which the tokens begin, and the one at which the last one ends.
func begins(l []api.Token) []int {
	at := []int{0}
	for i, t := range l {
		at = append(at, at[i]+t.Width)
	}
	return at
}

// numbers are those of an edit.
func numbers(was, is []api.Token, old, now api.Span) (first, oldEnd, newEnd int) {
	before, after := begins(was), begins(is)
	for first < len(was) && before[first+1]+was[first].Look <= old.From {
		first++
	}
	growth := after[len(is)] - before[len(was)]
	token := map[int]int{} // by the offset at which it begins
	for m := range was {
		if before[m] >= old.To {
			token[before[m]] = m
		}
	}
	for n := first; n < len(is); n++ {
		if m, ok := token[after[n]-growth]; ok && after[n] >= now.To {
			return first, m, n
		}
	}
	return first, len(was), len(is)
}

// answer is all that Update tells.
type answer struct {
	is                    []api.Token
	first, oldEnd, newEnd int
	e                     api.Errno
}

func asked(was []api.Token, text string, old, now api.Span) answer {
	is, first, oldEnd, newEnd, e := Update(was, text, old, now)
	return answer{is, first, oldEnd, newEnd, e}
}

func (x answer) same(y answer) bool {
	return slices.Equal(x.is, y.is) && x.first == y.first && x.oldEnd == y.oldEnd && x.newEnd == y.newEnd && x.e == y.e
}

// wanted is what Update must answer for the tokens of the text ahead of an edit.
func wanted(x edit) answer {
	was, is := lex.All(x.from), lex.All(x.to)
	first, oldEnd, newEnd := numbers(was, is, x.old, x.now)
	return answer{is, first, oldEnd, newEnd, api.OK}
}

func wantEdit(t *testing.T, x edit) {
	t.Helper()
	if got, want := asked(lex.All(x.from), x.to, x.old, x.now), wanted(x); !got.same(want) {
		t.Fatalf("%.80q to %.80q, %v %v: %.400v, not %.400v", x.from, x.to, x.old, x.now, got, want)
	}
}

// rightTokens and rightSpans are P13.1's conditions, one by one.
func rightTokens(was []api.Token) bool {
	for _, t := range was {
		if t.Width < 1 || t.Width > 1099511627776 || t.Look < 0 || t.Look > 1099511627776 {
			return false
		}
	}
	return len(was) <= 1048576
}

func rightSpans(was []api.Token, text string, old, now api.Span) bool {
	all := begins(was)[len(was)]
	return old.From == now.From && old.From >= 0 && old.From <= old.To && old.From <= now.To &&
		old.To <= all && now.To <= len(text) && all-old.To == len(text)-now.To
}

// wantAny asks for what is promised for any list and any spans: the errors, and the bounds.
func wantAny(t *testing.T, was []api.Token, text string, old, now api.Span) {
	t.Helper()
	got := asked(was, text, old, now)
	bad := func() { t.Helper(); t.Fatalf("%.400v, %.80q, %v %v: %.400v", was, text, old, now, got) }
	switch {
	case !rightTokens(was):
		if !got.same(answer{e: api.ErrTokens}) {
			bad()
		}
	case !rightSpans(was, text, old, now):
		if !got.same(answer{e: api.ErrArg}) {
			bad()
		}
	case got.e != api.OK || len(got.is) > len(text) || got.first < 0 || got.first > got.oldEnd || got.first > got.newEnd || got.oldEnd > len(was) || got.newEnd > len(got.is):
		bad()
	}
}
