package edits

import (
	"slices"
	"testing"
	"unicode/utf8"

	"glossator/api"
	"glossator/lines"
	"glossator/rope"
)

// The reference: the text as a string, cut by plain slices, and places by chapter 2.

// editOf is what Of must answer: P10.1.
func editOf(s string, c api.Change) (api.Edit, api.Errno) {
	if !c.Ranged {
		return api.Edit{From: 0, To: len(s), Text: c.Text}, api.OK
	}
	d := api.Edit{From: lines.Offset(s, c.Range.Start), To: lines.Offset(s, c.Range.End), Text: c.Text}
	if d.From > d.To {
		return api.Edit{}, api.ErrRange
	}
	return d, api.OK
}

func replaced(s string, d api.Edit) string { return s[:d.From] + d.Text + s[d.To:] }

// changed is what Do must answer: P10.2.
func changed(s string, l []api.Change) (string, []api.Edit, api.Errno) {
	if len(l) > 64 {
		return "", nil, api.ErrFull
	}
	var done []api.Edit
	for _, c := range l {
		d, e := editOf(s, c)
		if e != api.OK {
			return "", nil, e
		}
		if !utf8.ValidString(d.Text) {
			return "", nil, api.ErrUTF
		}
		if s = replaced(s, d); len(s) > 16384 {
			return "", nil, api.ErrLong
		}
		done = append(done, d)
	}
	return s, done, api.OK
}

// affected is what Around must answer: P10.3. It counts what no edit has touched, ahead and behind, in a text of some length; whichever length that is, it falls out of the spans.
func affected(l []api.Edit) (old, now api.Span, e api.Errno) {
	const first = 1 << 50
	long, ahead, behind := first, first, first
	for _, d := range l {
		if d.From < 0 || d.To < d.From || d.From > 1<<40 || d.To > 1<<40 {
			return api.Span{}, api.Span{}, api.ErrArg
		}
		ahead, behind = min(ahead, d.From), min(behind, long-d.To)
		long += len(d.Text) - (d.To - d.From)
	}
	if len(l) > 65536 {
		return api.Span{}, api.Span{}, api.ErrFull
	}
	if len(l) == 0 {
		return api.Span{}, api.Span{}, api.OK
	}
	return api.Span{From: ahead, To: first - behind}, api.Span{From: ahead, To: long - behind}, api.OK
}

func wantOf(t *testing.T, r *rope.Rope, s string, c api.Change) {
	t.Helper()
	want, no := editOf(s, c)
	if d, e := Of(r, c); d != want || e != no {
		t.Fatalf("%.80q: Of(%.80v): %.80v %d, not %.80v %d", s, c, d, e, want, no)
	}
	wantText(t, r, s)
}

// wantText asks a rope for its text, and for what it has counted of it.
func wantText(t *testing.T, r *rope.Rope, s string) {
	t.Helper()
	if r == nil {
		t.Fatalf("no rope of %.80q", s)
	}
	if r.Text() != s || r.Len() != len(s) || r.Breaks() != lines.Many(s)-1 {
		t.Fatalf("a rope of %.80q, not of %.80q", r.Text(), s)
	}
}

// wantDo asks for changes one after the other, and that the rope and the changes that came in are as they were; it returns the new rope and its text, or the old ones beside an error.
func wantDo(t *testing.T, r *rope.Rope, s string, l []api.Change) (*rope.Rope, string) {
	t.Helper()
	want, edits, no := changed(s, l)
	kept := slices.Clone(l)
	now, done, e := Do(r, l)
	if !slices.Equal(l, kept) {
		t.Fatalf("%.80q: Do changed its changes to %.80v", s, l)
	}
	wantText(t, r, s)
	if e != no || !slices.Equal(done, edits) {
		t.Fatalf("%.80q: Do(%.200v): %.200v %d, not %.200v %d", s, l, done, e, edits, no)
	}
	if e != api.OK {
		if now != nil || done != nil {
			t.Fatalf("%.80q: Do(%.200v): %v %v beside %d", s, l, now, done, e)
		}
		return r, s
	}
	wantText(t, now, want)
	wantOutside(t, s, want, done)
	return now, want
}

// wantOutside asks for P10.4: the affected spans lie in the texts, and outside of them the texts are equal. Edits applied by plain slices lead from one to the other.
func wantOutside(t *testing.T, first, last string, done []api.Edit) {
	t.Helper()
	s := first
	for _, d := range done {
		s = replaced(s, d)
	}
	if s != last {
		t.Fatalf("%.80q: the edits %.200v lead to %.80q, not to %.80q", first, done, s, last)
	}
	old, now := wantAround(t, done)
	if !within(old, first) || !within(now, last) || first[:old.From] != last[:now.From] || first[old.To:] != last[now.To:] {
		t.Fatalf("%.80q to %.80q: %v to %v", first, last, old, now)
	}
}

func within(x api.Span, s string) bool { return 0 <= x.From && x.From <= x.To && x.To <= len(s) }

func wantAround(t *testing.T, l []api.Edit) (old, now api.Span) {
	t.Helper()
	kept := slices.Clone(l)
	wantOld, wantNow, no := affected(l)
	old, now, e := Around(l)
	if old != wantOld || now != wantNow || e != no {
		t.Fatalf("Around(%.200v): %v, %v, %d, not %v, %v, %d", l, old, now, e, wantOld, wantNow, no)
	}
	if !slices.Equal(l, kept) {
		t.Fatalf("Around changed its edits to %.200v", l)
	}
	return old, now
}
