package edits

import (
	"math/rand/v2"
	"slices"
	"strings"
	"testing"
	"unsafe"

	"glossator/api"
	"glossator/rope"
)

func TestExamples(t *testing.T) { // P10.1 to P10.3
	r := made(t, "ab\ncd")
	if d, e := Of(r, at(0, 1, 1, 1, "x")); d != (api.Edit{From: 1, To: 4, Text: "x"}) || e != api.OK {
		t.Errorf("across a line end: %v %d", d, e)
	}
	if d, e := Of(r, at(1, 0, 0, 1, "")); d != (api.Edit{}) || e != api.ErrRange {
		t.Errorf("backwards: %v %d", d, e)
	}
	if d, e := Of(r, whole("new")); d != (api.Edit{From: 0, To: 5, Text: "new"}) || e != api.OK {
		t.Errorf("without a range: %v %d", d, e)
	}
	now, done, e := Do(made(t, "ab"), []api.Change{at(0, 0, 0, 0, "x"), at(0, 3, 0, 3, "y")})
	if e != api.OK || now.Text() != "xaby" || !slices.Equal(done, []api.Edit{{From: 0, To: 0, Text: "x"}, {From: 3, To: 3, Text: "y"}}) {
		t.Errorf("Do: %v %v %d", now.Text(), done, e)
	}
}

func TestOf(t *testing.T) { // P10.1: every pair of places
	for _, s := range some() {
		r := made(t, s)
		for _, p := range places(s) {
			for _, q := range places(s) {
				wantOf(t, r, s, api.Change{Ranged: true, Range: api.Range{Start: p, End: q}, Text: "x"})
			}
			for _, q := range farPlaces() {
				wantOf(t, r, s, api.Change{Ranged: true, Range: api.Range{Start: p, End: q}, Text: "x"})
				wantOf(t, r, s, api.Change{Ranged: true, Range: api.Range{Start: q, End: p}})
			}
		}
	}
}

func TestOfFar(t *testing.T) { // P10.1: both places far outside
	for _, s := range some() {
		r := made(t, s)
		for _, p := range farPlaces() {
			for _, q := range farPlaces() {
				wantOf(t, r, s, api.Change{Ranged: true, Range: api.Range{Start: p, End: q}, Text: "x"})
			}
		}
	}
}

// TestOfByHand has the places of which the chapter of lines speaks, told by hand.
func TestOfByHand(t *testing.T) { // P10.1
	const s = "ab\r\nc\U0001F600\rde" // the lines begin at 0, 4 and 10
	for _, x := range []struct {
		c        api.Change
		from, to int
		e        api.Errno
	}{
		{at(0, 0, 0, 0, ""), 0, 0, api.OK}, {at(0, 2, 1, 0, ""), 2, 4, api.OK}, {at(0, 0, 9, 0, ""), 0, 12, api.OK},
		{at(0, 3, 0, 3, ""), 2, 2, api.OK}, {at(0, 3, 0, 99, ""), 2, 2, api.OK}, {at(0, 99, 0, 3, ""), 2, 2, api.OK}, {at(0, 99, 1, 0, ""), 2, 4, api.OK}, // none is between 13 and 10
		{at(1, 1, 1, 2, ""), 5, 5, api.OK}, {at(1, 2, 1, 1, ""), 5, 5, api.OK}, {at(1, 2, 1, 3, ""), 5, 9, api.OK}, {at(1, 3, 1, 2, ""), 0, 0, api.ErrRange}, // amid a character
		{at(-1, -1, -7, -7, ""), 0, 0, api.OK}, {at(-1, 1, 0, 1, ""), 1, 1, api.OK}, {at(2, -1, 2, 1, ""), 10, 11, api.OK}, {at(0, 1, -1, 0, ""), 0, 0, api.ErrRange},
		{at(3, 0, 3, 0, ""), 12, 12, api.OK}, {at(9, 9, 3, 0, ""), 12, 12, api.OK}, {at(2, 9, 3, 0, ""), 12, 12, api.OK}, {at(3, 0, 2, 2, ""), 12, 12, api.OK}, {at(3, 0, 2, 1, ""), 0, 0, api.ErrRange},
		{at(1, 0, 0, 99, ""), 0, 0, api.ErrRange}, {at(2, 0, 1, 9, ""), 0, 0, api.ErrRange}, {at(0, 1, 0, 0, ""), 0, 0, api.ErrRange},
	} {
		for _, text := range append(parts(), "", "\xff", strings.Repeat("long", 5000)) {
			x.c.Text = text
			want := api.Edit{From: x.from, To: x.to, Text: text}
			if x.e != api.OK {
				want = api.Edit{}
			}
			if d, e := Of(made(t, s), x.c); d != want || e != x.e {
				t.Errorf("Of(%.80v): %.80v %d", x.c, d, e)
			}
		}
	}
}

// TestOfWithoutRange sets the Range too: it says nothing if the change has none.
func TestOfWithoutRange(t *testing.T) { // P10.1
	for _, s := range append(some(), mixed(300), mixed(1<<14)) {
		r := made(t, s)
		for _, p := range append(places("ab\ncd"), farPlaces()...) {
			for _, text := range []string{"", "new", "\xff", strings.Repeat("a", 1<<14+1)} {
				if d, e := Of(r, api.Change{Range: api.Range{Start: p}, Text: text}); e != api.OK || d != (api.Edit{From: 0, To: len(s), Text: text}) {
					t.Fatalf("Of without a range, but with %v: %.80v %d", p, d, e)
				}
			}
		}
		wantText(t, r, s)
	}
}

func TestOfLong(t *testing.T) { // P10.1: a text of several leaves
	s := mixed(500)
	r := made(t, s)
	for from := 0; from <= len(s); from += 3 {
		for to := 0; to <= len(s); to += 7 {
			wantOf(t, r, s, api.Change{Ranged: true, Range: api.Range{Start: r.Pos(from), End: r.Pos(to)}, Text: "x"})
		}
	}
}

func TestNil(t *testing.T) { // P10.1, P10.2: ErrNil comes before every other error
	for _, c := range []api.Change{{}, whole("x"), whole("\xff"), at(0, 0, 0, 0, ""), at(1, 0, 0, 0, "x"), at(0, 0, 0, 0, strings.Repeat("a", 1<<14+1))} {
		if d, e := Of(nil, c); d != (api.Edit{}) || e != api.ErrNil {
			t.Errorf("Of(nil, %.80v): %v %d", c, d, e)
		}
		for _, n := range []int{0, 1, 64, 65, 1000} {
			if now, done, e := Do(nil, times(n, c)); now != nil || done != nil || e != api.ErrNil {
				t.Errorf("Do(nil, %d times %.80v): %v %v %d", n, c, now, done, e)
			}
		}
	}
}

func TestNotMade(t *testing.T) { // a Rope that New and Splice did not return is one of the empty text
	for _, r := range []*rope.Rope{new(rope.Rope), {}, made(t, "")} {
		for _, p := range append(farPlaces(), places("")...) {
			wantOf(t, r, "", api.Change{Ranged: true, Range: api.Range{Start: p}, Text: "x"})
			wantOf(t, r, "", api.Change{Ranged: true, Range: api.Range{End: p}, Text: "x"})
		}
		wantOf(t, r, "", whole("new"))
		wantDo(t, r, "", nil)
		wantDo(t, r, "", []api.Change{whole("a\nb"), at(1, 0, 1, 1, "")})
		wantDo(t, r, "", []api.Change{at(3, 4, 1, 2, "\xff")})
		wantDo(t, r, "", times(65, at(0, 0, 0, 0, "a")))
	}
}

func TestHowMany(t *testing.T) { // P10.2: 64 changes, and 65
	for _, s := range some() {
		r := made(t, s)
		for _, n := range []int{0, 1, 2, 63, 64, 65, 66, 128, 1 << 16} {
			for _, c := range []api.Change{at(0, 0, 0, 0, "x"), at(9, 0, 9, 9, "\r"), at(0, 0, 0, 1, ""), whole("a\nb")} {
				wantDo(t, r, s, times(n, c))
			}
		}
		for _, l := range [][]api.Change{nil, {}, make([]api.Change, 0, 9)} {
			if now, done, e := Do(r, l); now == nil || now.Text() != s || len(done) != 0 || e != api.OK {
				t.Errorf("%q: Do of no changes: %v %v %d", s, now, done, e)
			}
		}
	}
	r := made(t, "a\nb")
	now, done, e := Do(r, times(64, at(0, 0, 0, 0, "x")))
	if e != api.OK || now.Text() != strings.Repeat("x", 64)+"a\nb" || len(done) != 64 {
		t.Errorf("64 changes: %v %d", done, e)
	}
	for _, c := range []api.Change{at(0, 0, 0, 0, "x"), at(1, 0, 0, 0, "x"), whole("\xff"), whole(strings.Repeat("a", 1<<14+1))} {
		if now, done, e := Do(r, times(65, c)); now != nil || done != nil || e != api.ErrFull {
			t.Errorf("65 times %.80v: %v %v %d", c, now, done, e)
		}
	}
}

// TestErrors has a wrong change in every place of a list, and two.
func TestErrors(t *testing.T) { // P10.2
	full := mixed(1 << 14)
	wrong := []struct {
		c api.Change
		e api.Errno
	}{
		{at(1, 0, 0, 0, "x"), api.ErrRange}, {at(1, 0, 0, 0, "\xff"), api.ErrRange}, {at(0, 1, 0, 0, full+"\xff"), api.ErrRange},
		{at(0, 0, 0, 0, "\xff"), api.ErrUTF}, {whole("a\xc3"), api.ErrUTF}, {whole(full + "\x80"), api.ErrUTF}, {at(0, 0, 9, 9, full+"\x80"), api.ErrUTF},
		{at(0, 0, 0, 0, full), api.ErrLong}, {whole(full + "a"), api.ErrLong}, {at(0, 0, 9, 9, full+"\n"), api.ErrLong},
	}
	r := made(t, "a\nb")
	for _, x := range wrong {
		for i := range 64 {
			for _, n := range []int{i + 1, 64} {
				l := put(n, i, x.c)
				if now, done, e := Do(r, l); now != nil || done != nil || e != x.e {
					t.Fatalf("%.80v, the %d of %d: %v %v %d", x.c, i, n, now, done, e)
				}
				wantDo(t, r, "a\nb", l)
			}
		}
		for _, y := range wrong {
			if now, done, e := Do(r, []api.Change{at(0, 0, 0, 0, "c"), x.c, at(0, 0, 0, 0, "d"), y.c}); now != nil || done != nil || e != x.e {
				t.Errorf("%.80v, and later %.80v: %v %v %d", x.c, y.c, now, done, e)
			}
		}
		if _, _, e := Do(r, put(65, 0, x.c)); e != api.ErrFull {
			t.Errorf("%.80v as one of 65: %d", x.c, e)
		}
	}
}

// TestOneAfterTheOther has changes that are right, or wrong, or mean something else, because of those before.
func TestOneAfterTheOther(t *testing.T) { // P10.2
	full := mixed(1 << 14)
	for _, x := range []struct {
		s, want string
		l       []api.Change
		e       api.Errno
	}{
		{"a\nb", "ab!", []api.Change{at(0, 1, 1, 0, ""), at(1, 0, 0, 5, "!")}, api.OK},
		{"a\nb", "", []api.Change{at(1, 0, 0, 5, "!")}, api.ErrRange},
		{"ab", "", []api.Change{at(0, 1, 0, 1, "\n"), at(1, 0, 0, 5, "!")}, api.ErrRange},
		{"", "a\nxb", []api.Change{at(0, 0, 0, 0, "a\nb"), at(1, 0, 1, 0, "x")}, api.OK},
		{"a\rb", "a\r\nb\n", []api.Change{at(1, 0, 1, 0, "\n"), at(1, 0, 1, 0, "b"), at(1, 1, 1, 2, ""), at(1, 1, 9, 0, "\n")}, api.OK},
		{"a\r\nb", "a\nxb", []api.Change{at(0, 1, 1, 0, "\r"), at(0, 1, 1, 0, "\n"), at(1, 0, 1, 0, "x")}, api.OK},
		{"abc", "c", []api.Change{at(0, 0, 0, 1, ""), at(0, 0, 0, 1, "")}, api.OK},
		{"abc", "zz", []api.Change{whole("z"), at(0, 1, 0, 1, "z")}, api.OK},
		{"abc", "", []api.Change{whole("z"), whole("")}, api.OK},
		{"é", "x\U0001F600y", []api.Change{at(0, 0, 0, 1, "\U0001F600"), at(0, 1, 0, 1, "x"), at(0, 3, 0, 3, "y")}, api.OK},
		{full, full[:1<<14-1] + "x", []api.Change{at(1<<14, 0, 1<<14, 0, ""), whole(full[:1<<14-1]), at(1<<14, 0, 1<<14, 0, "x")}, api.OK},
		{full, "", []api.Change{at(1<<14, 0, 1<<14, 0, "x"), whole("short")}, api.ErrLong},
		{full, "short", []api.Change{whole("short")}, api.OK},
		{"a", full, []api.Change{whole(full)}, api.OK},
		{"a", "", []api.Change{at(0, 0, 0, 0, full)}, api.ErrLong},
		{"a", "", []api.Change{whole(full), at(0, 0, 0, 0, "a")}, api.ErrLong},
		{"a", "", []api.Change{at(0, 0, 0, 0, "\xc3"), at(0, 1, 0, 1, "\xa9")}, api.ErrUTF},
	} {
		r := made(t, x.s)
		now, done, e := Do(r, x.l)
		if e != x.e || (e == api.OK) != (now != nil) || now != nil && now.Text() != x.want {
			t.Errorf("%.80q: Do(%.200v): %.80v %d", x.s, x.l, done, e)
		}
		wantDo(t, r, x.s, x.l)
	}
}

func TestPairs(t *testing.T) { // P10.2, P10.4: two changes in every two places of a text
	const s = "a\r\n\U0001F600b"
	r := made(t, s)
	spots := []api.Pos{{}, {Char: 1}, {Char: 2}, {Line: 1}, {Line: 1, Char: 1}, {Line: 1, Char: 2}, {Line: 2}}
	var changes []api.Change
	for _, p := range spots {
		for _, q := range spots {
			for _, text := range []string{"", "\n", "xyz"} {
				changes = append(changes, api.Change{Ranged: true, Range: api.Range{Start: p, End: q}, Text: text})
			}
		}
	}
	for _, c := range changes {
		for _, d := range changes {
			wantDo(t, r, s, []api.Change{c, d})
		}
	}
}

// TestMany makes one text from another, again and again, each time by some changes; the ropes before stay as they were.
func TestMany(t *testing.T) { // P10.2, P10.4
	random := rand.New(rand.NewPCG(10, 2))
	for _, s := range append(some(), mixed(200), mixed(1000)) {
		r := made(t, s)
		type state struct {
			r *rope.Rope
			s string
		}
		var all []state
		for range 300 {
			all = append(all, state{r, s})
			r, s = wantDo(t, r, s, anyChanges(random, random.IntN(9)))
		}
		for _, x := range all {
			wantText(t, x.r, x.s)
		}
	}
}

func TestSplitting(t *testing.T) { // P10.5: cut anywhere
	random := rand.New(rand.NewPCG(10, 5))
	for n := range 800 {
		s := append(some(), mixed(150))[n%11]
		r := made(t, s)
		l := anyChanges(random, random.IntN(30))
		if n%40 == 0 {
			l = times(64, at(1, 1, 1, 2, "x\n"))
		}
		once, done, e := Do(r, l)
		for cut := range len(l) + 1 {
			wantSplit(t, r, l, cut, once, done, e)
			wantText(t, r, s)
		}
	}
}

// wantSplit applies the first changes, and then the rest, and asks for what they lead to in one call.
func wantSplit(t *testing.T, r *rope.Rope, l []api.Change, cut int, once *rope.Rope, done []api.Edit, e api.Errno) {
	t.Helper()
	first, some, no := Do(r, l[:cut])
	if no != api.OK {
		if no != e || first != nil || some != nil {
			t.Fatalf("%v %v %d, and together %d", first, some, no, e)
		}
		return
	}
	text := first.Text()
	then, rest, no := Do(first, l[cut:])
	wantText(t, first, text)
	if no != e || (then == nil) != (once == nil) {
		t.Fatalf("%v cut at %d: %d, and together %d", l, cut, no, e)
	}
	if e == api.OK && (then.Text() != once.Text() || !slices.Equal(slices.Concat(some, rest), done)) {
		t.Fatalf("%v cut at %d: %q %v %v, and together %q %v", l, cut, then.Text(), some, rest, once.Text(), done)
	}
}

// TestMemory overwrites what was handed in and what was told, up to the capacity.
func TestMemory(t *testing.T) { // P0.4
	b := []byte("xy")
	text := unsafe.String(&b[0], len(b))
	back := []api.Change{at(0, 0, 0, 0, text), at(0, 1, 0, 2, text), whole("beyond")}
	l := back[:2]
	r := made(t, "ab")
	one, _ := Of(r, l[0])
	now, done, _ := Do(r, l)
	_, again, _ := Do(r, l)
	want := []api.Edit{{From: 0, To: 0, Text: "xy"}, {From: 1, To: 2, Text: "xy"}}
	clear(b)
	if one != want[0] || !slices.Equal(done, want) || now.Text() != "xxyab" {
		t.Errorf("after the text was overwritten: %v %v %q", one, done, now.Text())
	}
	if back[2] != whole("beyond") {
		t.Errorf("behind the changes: %v", back[2])
	}
	clear(l)
	clear(unsafe.Slice(unsafe.StringData(done[0].Text), 2))
	if done[1] != want[1] || !slices.Equal(again, want) || now.Text() != "xxyab" {
		t.Errorf("after the told text was overwritten: %v %v %q", done, again, now.Text())
	}
	clear(done[:cap(done)])
	if !slices.Equal(again, want) || now.Text() != "xxyab" || r.Text() != "ab" {
		t.Errorf("after the told edits were overwritten: %v %q %q", again, now.Text(), r.Text())
	}
}
