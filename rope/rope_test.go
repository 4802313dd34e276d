package rope

import (
	"math/rand/v2"
	"strings"
	"testing"
	"unsafe"

	"glossator/api"
)

func TestExamples(t *testing.T) { // P9.1 to P9.4
	r := made(t, example)
	if r.Len() != 10 || r.Units() != 8 || r.Breaks() != 2 || r.Text() != example {
		t.Errorf("Len %d, Units %d, Breaks %d, Text %q", r.Len(), r.Units(), r.Breaks(), r.Text())
	}
	for line, want := range []int{0, 4, 10} {
		if at, ok := r.Start(line); at != want || !ok {
			t.Errorf("Start(%d): %d %v", line, at, ok)
		}
	}
	if at, ok := r.Start(3); at != 0 || ok {
		t.Errorf("Start(3): %d %v", at, ok)
	}
	for p, want := range map[api.Pos]int{{Line: 0, Char: 9}: 2, {Line: 1, Char: 2}: 5, {Line: 1, Char: 3}: 9, {Line: 7}: 10} {
		if at := r.Offset(p); at != want {
			t.Errorf("Offset(%v): %d, not %d", p, at, want)
		}
	}
	for at, want := range map[int]api.Pos{3: {Line: 0, Char: 2}, 4: {Line: 1}, 7: {Line: 1, Char: 1}, 10: {Line: 2}} {
		if p := r.Pos(at); p != want {
			t.Errorf("Pos(%d): %v, not %v", at, p, want)
		}
	}
	if x, e := r.Splice(3, 4, ""); e != api.OK || x.Breaks() != 2 || x.Text() != "ab\rc\U0001F600\r" {
		t.Errorf("without the byte 10: %d %q", e, x.Text())
	}
	if x, e := r.Splice(6, 9, ""); e != api.ErrRange || x != nil {
		t.Errorf("amid a character: %v %d", x, e)
	}
	if x, e := r.Splice(2, 4, "x"); e != api.OK || x.Text() != "abxc\U0001F600\r" || x.Breaks() != 1 {
		t.Errorf("a letter for a line end: %d %q", e, x.Text())
	}
}

func TestNew(t *testing.T) { // P9.1
	long := mixed(1 << 14)
	for _, s := range []string{"", "a", "\x00", "\ufffd", "\n", "é", example, long[:1<<14-1] + "x", long, strings.Repeat("a", 1<<14), strings.Repeat("\U0001F600", 1<<12)} {
		r := made(t, strings.ToValidUTF8(s, "?"))
		wantCounts(t, r, strings.ToValidUTF8(s, "?"))
		wantSound(t, r)
	}
	for _, s := range append(invalid(), long[:1<<14-1]+"\xff", "\xff"+long[:100], strings.Repeat("\x80", 1<<14)) {
		if r, e := New(s); r != nil || e != api.ErrUTF {
			t.Errorf("New(%.80q): %v %d", s, r, e)
		}
	}
	for _, s := range []string{long + "a", long + "\xff", strings.Repeat("a", 1<<14+1), strings.Repeat("\xff", 1<<14+1), strings.Repeat("é", 1<<13) + "b", strings.Repeat("a", 1<<20)} {
		if r, e := New(s); r != nil || e != api.ErrLong {
			t.Errorf("New of %d bytes: %v %d", len(s), r, e)
		}
	}
}

func TestNil(t *testing.T) { // P0.1, P9.3
	var r *Rope
	if r.Len() != 0 || r.Units() != 0 || r.Breaks() != 0 || r.Depth() != 0 || r.Text() != "" {
		t.Errorf("the counts of a nil rope")
	}
	for _, n := range append(far(), -1, 0, 1) {
		if at, ok := r.Start(n); at != 0 || ok {
			t.Errorf("Start(%d): %d %v", n, at, ok)
		}
		if p := r.Pos(n); p != (api.Pos{}) {
			t.Errorf("Pos(%d): %v", n, p)
		}
		for _, m := range append(far(), -1, 0, 1) {
			if at := r.Offset(api.Pos{Line: n, Char: m}); at != 0 {
				t.Errorf("Offset(%d %d): %d", n, m, at)
			}
			if s, e := r.Slice(n, m); s != "" || e != api.ErrNil {
				t.Errorf("Slice(%d, %d): %q %d", n, m, s, e)
			}
			for _, s := range []string{"", "a", "\xff", strings.Repeat("a", 1<<14+1)} {
				if x, e := r.Splice(n, m, s); x != nil || e != api.ErrNil {
					t.Errorf("Splice(%d, %d, %.80q): %v %d", n, m, s, x, e)
				}
			}
		}
	}
}

func TestNotMade(t *testing.T) { // a Rope that New and Splice did not return is one of the empty text
	empty := made(t, "")
	for _, r := range []*Rope{new(Rope), {}, empty, edited(t, made(t, example), 0, 10, ""), edited(t, new(Rope), 0, 0, "")} {
		wantCounts(t, r, "")
		wantPlaces(t, r, "")
		wantSlice(t, r, "", 0, 0)
		for _, n := range append(far(), -1, 1) {
			wantSlice(t, r, "", 0, n)
			wantSlice(t, r, "", n, 0)
			wantSlice(t, r, "", n, n)
		}
		now, text := wantSplice(t, r, "", 0, 0, example)
		wantPlaces(t, now, text)
		wantSplice(t, r, "", 0, 1, "a")
		wantSplice(t, r, "", -1, 0, "a")
		wantSplice(t, r, "", 0, 0, "\xff")
		wantSplice(t, r, "", 0, 0, mixed(1<<14))
		wantSplice(t, r, "", 0, 0, mixed(1<<14)+"a")
	}
}

// TestShortTexts holds everything against the reference: P9.2 to P9.5, for each short text.
func TestShortTexts(t *testing.T) {
	eachText(4, func(s string) {
		r := made(t, s)
		wantCounts(t, r, s)
		wantPlaces(t, r, s)
		for from := -1; from <= len(s)+1; from++ {
			for to := -1; to <= len(s)+1; to++ {
				wantSlice(t, r, s, from, to)
			}
		}
	})
}

// TestLongerTexts is the same for texts of several leaves, in trees of different forms.
func TestLongerTexts(t *testing.T) {
	for _, s := range longer() {
		for _, mk := range makers() {
			r := mk(t, s)
			wantCounts(t, r, s)
			wantSound(t, r)
			for from := -1; from <= len(s)+1; from += 3 {
				for to := from - 2; to <= len(s)+1; to += 7 {
					wantSlice(t, r, s, from, to)
				}
			}
		}
	}
}

func TestLongerPlaces(t *testing.T) { // P9.4
	for _, s := range longer() {
		for name, mk := range makers() {
			if name == "New" || len(s) < 200 {
				wantPlaces(t, mk(t, s), s)
			}
		}
	}
}

// TestDividedLineEnds makes sure that the tests before have a byte 13 and a byte 10 in two leaves, and asks beside it.
func TestDividedLineEnds(t *testing.T) { // P9.2, P9.4
	for n := range 2 * most {
		s := strings.Repeat("a", n) + strings.Repeat("\r\n", 2*most)
		wantPlacesAround(t, made(t, s), s)
	}
	s := strings.Repeat("\r\n", most+1)
	if ahead, text := leafAt(made(t, s).root, most+1); !ahead.back || text[0] != '\n' {
		t.Errorf("no line end is divided")
	}
}

// wantPlacesAround asks for the places at the edges of each leaf.
func wantPlacesAround(t *testing.T, r *Rope, s string) {
	t.Helper()
	wantCounts(t, r, s)
	starts := startsOf(s)
	for line := range len(starts) + 1 {
		wantStart(t, r, starts, line)
	}
	for at := 0; at < len(s); {
		ahead, text := leafAt(r.root, at)
		at = ahead.bytes + len(text)
		for x := at - 5; x <= at+5; x++ {
			wantPos(t, r, s, x)
		}
		for line := r.Pos(at).Line - 2; line <= r.Pos(at).Line+2; line++ {
			for char := -1; char <= 5; char++ {
				wantOffset(t, r, s, api.Pos{Line: line, Char: char})
				wantOffset(t, r, s, api.Pos{Line: line, Char: r.Pos(at).Char + char - 3})
			}
		}
	}
}

func TestTwoPieces(t *testing.T) { // P9.2: bytes 13 and 10 that come, and go, each by itself
	r, s := made(t, ""), ""
	for range 300 {
		r, s = wantSplice(t, r, s, len(s), len(s), "\r")
		r, s = wantSplice(t, r, s, len(s), len(s), "\n")
	}
	wantPlacesAround(t, r, s)
	for at := 599; at > 0; at -= 2 {
		x, text := wantSplice(t, r, s, at, at, "x") // in two
		wantStart(t, x, startsOf(text), at/2+1)
		wantSplice(t, x, text, at, at+1, "") // and one again
	}
	for at := 0; at < len(s); at++ { // every second byte 10 of those that are left
		r, s = wantSplice(t, r, s, at+1, at+2, "")
	}
	wantSound(t, r)
}

func TestSplice(t *testing.T) { // P9.3: each span of a text
	for _, s := range []string{"", "a", "é", example, "\r\n\r\n", "€\U0001F600é\n"} {
		r := made(t, s)
		for from := -2; from <= len(s)+2; from++ {
			for to := -2; to <= len(s)+2; to++ {
				for _, p := range append(parts(), "", "\xff", "ab\r", mixed(100)) {
					now, text := wantSplice(t, r, s, from, to, p)
					wantSound(t, now)
					if len(text) < 20 {
						wantPlaces(t, now, text)
					}
				}
			}
		}
		for _, n := range far() {
			for _, p := range []string{"", "a", "\xff", mixed(1<<14 + 1)} {
				wantSplice(t, r, s, n, 0, p)
				wantSplice(t, r, s, 0, n, p)
				wantSplice(t, r, s, n, n, p)
			}
		}
	}
}

func TestSpliceOfLong(t *testing.T) { // P9.3: every offset of a text of several leaves
	s := mixed(400)
	r := made(t, s)
	for at := -1; at <= len(s)+1; at++ {
		for _, n := range []int{-1, 0, 1, 2, 63, 64, 65, 200, 400} {
			for _, p := range []string{"", "\n", "\U0001F600", s[:100]} {
				now, _ := wantSplice(t, r, s, at, at+n, p)
				wantSound(t, now)
			}
		}
	}
}

func TestErrors(t *testing.T) { // P9.3: of several the first one
	full := mixed(1 << 14)
	for _, c := range []struct {
		s        string
		from, to int
		text     string
		want     api.Errno
	}{
		{full, 0, 0, "a", api.ErrLong}, {full, 0, 1, "a", api.OK}, {full, 1 << 14, 1 << 14, "a", api.ErrLong}, {full, 1<<14 - 1, 1 << 14, "b", api.OK},
		{full, 0, 0, "", api.OK}, {full, 1 << 14, 1 << 14, "", api.OK}, {full, 0, 1 << 14, full, api.OK}, {full, 0, 1 << 14, full + "a", api.ErrLong},
		{full, 0, 1 << 14, full + "\xff", api.ErrUTF}, {full, 0, 0, "\xff", api.ErrUTF}, {full, 0, 1<<14 + 1, "\xff", api.ErrRange}, {full, -1, 0, full + "\xff", api.ErrRange},
		{full, 1<<14 + 1, 1<<14 + 1, "", api.ErrRange}, {full, 2, 1, full, api.ErrRange},
		{"é", 1, 2, "\xff", api.ErrRange}, {"é", 0, 1, full + full, api.ErrRange}, {"é", 1, 1, "", api.ErrRange}, {"é", 2, 0, "", api.ErrRange},
		{"é", 0, 0, full, api.ErrLong}, {"é", 0, 2, full, api.OK}, {"é", 2, 2, full[:1<<14-2], api.OK}, {"é", 2, 2, full[:1<<14-2] + "x", api.ErrLong},
		{"a", 0, 1, full + "x", api.ErrLong}, {"", 0, 0, "\xff" + full, api.ErrUTF},
	} {
		r := made(t, strings.ToValidUTF8(c.s, "?"))
		if now, e := r.Splice(c.from, c.to, c.text); e != c.want || (now == nil) != (e != api.OK) {
			t.Errorf("%.20q of %d bytes: Splice(%d, %d, %d bytes): %d, not %d", c.s, len(c.s), c.from, c.to, len(c.text), e, c.want)
		}
		wantCounts(t, r, c.s)
	}
	for _, s := range invalid() {
		if now, e := made(t, "ab").Splice(1, 1, s); now != nil || e != api.ErrUTF {
			t.Errorf("Splice of %q: %d", s, e)
		}
	}
}

// TestManyEdits edits one rope again and again, up to a full text; the ropes on the way stay as they were.
func TestManyEdits(t *testing.T) { // P9.3, P9.5
	for seed := range uint64(3) {
		rnd := rand.New(rand.NewPCG(seed, 9))
		r, s := made(t, ""), ""
		var ropes []*Rope
		var texts []string
		for i := range 1500 {
			from, to := place(rnd, s)
			r, s = wantSplice(t, r, s, from, to, piece(rnd))
			ropes, texts = append(ropes, r), append(texts, s)
			if i%10 == 0 {
				wantSound(t, r)
			}
		}
		if len(s) < 10000 {
			t.Errorf("%d bytes in the end", len(s))
		}
		for i, r := range ropes {
			wantCounts(t, r, texts[i])
			if i%500 == 0 {
				wantPlacesAround(t, r, texts[i])
			}
		}
	}
}

// place is a span of the text, mostly short and of whole characters; one time in ten it is whatever comes.
func place(rnd *rand.Rand, s string) (from, to int) {
	from = rnd.IntN(len(s)+3) - 1
	to = from + rnd.IntN(1+rnd.IntN(45)) - rnd.IntN(2)
	if rnd.IntN(10) == 0 {
		return from, to
	}
	from, to = max(min(from, to, len(s)), 0), max(min(to, len(s)), 0)
	for !fits(s, from, from) {
		from--
	}
	for !fits(s, to, to) {
		to++
	}
	return from, to
}

// piece is some text, mostly short, now and then none.
func piece(rnd *rand.Rand) string {
	var b strings.Builder
	many := rnd.IntN(1 + rnd.IntN(60))
	for range many {
		b.WriteString(parts()[rnd.IntN(len(parts()))])
	}
	return b.String()
}

// TestDepth asks for the depth on the way to a full text and back to the empty one.
func TestDepth(t *testing.T) { // P9.5
	rnd := rand.New(rand.NewPCG(1, 2))
	places := map[string]func(n int) int{
		"at the beginning":  func(n int) int { return 0 },
		"at the end":        func(n int) int { return n },
		"in the middle":     func(n int) int { return n / 2 },
		"at a third":        func(n int) int { return n / 3 },
		"near the end":      func(n int) int { return max(n-3, 0) },
		"at varying places": func(n int) int { return rnd.IntN(n + 1) },
		"at both ends": func(n int) int {
			if n%2 == 0 {
				return 0
			}
			return n
		},
	}
	for name, place := range places {
		for _, step := range []int{1, 2, 31, 64, 65, 1000} {
			wantDepths(t, name, step, place)
		}
	}
}

func wantDepths(t *testing.T, name string, step int, place func(n int) int) {
	t.Helper()
	r := new(Rope)
	add := strings.Repeat("a", step)
	for r.Len()+step <= 1<<14 {
		at := place(r.Len())
		r = edited(t, r, at, at, add)
		wantShallow(t, name, r)
	}
	wantSound(t, r)
	for r.Len() > 0 {
		from := place(r.Len())
		to := min(from+step, r.Len())
		if from == to {
			from = max(from-step, 0)
		}
		r = edited(t, r, from, to, "")
		wantShallow(t, name, r)
	}
	if r.Depth() != 0 {
		t.Errorf("%s: Depth %d of the empty text", name, r.Depth())
	}
}

func wantShallow(t *testing.T, name string, r *Rope) {
	t.Helper()
	if d := r.Depth(); d > deepest(r.Len()) || r.Len() > 0 && d < 1 {
		t.Fatalf("%s: Depth %d of %d bytes", name, d, r.Len())
	}
}

// TestDepthOfWhatIsLeft removes much in one step, or leaves one byte here and there.
func TestDepthOfWhatIsLeft(t *testing.T) { // P9.5
	full := made(t, strings.Repeat("a", 1<<14))
	for n := range 200 {
		wantSound(t, edited(t, full, n, 1<<14, ""))
		wantSound(t, edited(t, full, 0, 1<<14-n, ""))
		wantSound(t, edited(t, full, n, 1<<14-2*n-1, ""))
		wantShallow(t, "little left", edited(t, full, n, 1<<14-n-1, ""))
	}
	for _, gap := range []int{1, 2, 62, 63, 64, 65, 127, 500} {
		r := full
		for at := 0; at < r.Len(); at++ {
			r = edited(t, r, at, min(at+gap, r.Len()), "")
			wantShallow(t, "with gaps", r)
		}
		wantSound(t, r)
	}
}

// TestDepthIsCounted asks for the depth of texts that fit in one leaf, in two, and in two that are full.
func TestDepthIsCounted(t *testing.T) { // P9.5
	for n, want := range map[int]int{0: 0, 1: 1, most: 1, most + 1: 2, 2 * most: 2, 2*most + 1: 3, 1 << 14: 9} {
		if r := made(t, strings.Repeat("a", n)); r.Depth() != want {
			t.Errorf("Depth of %d bytes: %d, not %d", n, r.Depth(), want)
		}
	}
}

// TestEditsAreCheap counts the nodes that an edit of a long text makes anew: the ones on two ways down, with their joins, and no more.
func TestEditsAreCheap(t *testing.T) {
	s := mixed(1<<14 - 1)
	r := made(t, s)
	old := map[node]bool{}
	nodes(r.root, func(n node) bool { old[n] = true; return true })
	worst := 0
	for at := range len(s) {
		if !fits(s, at, at) {
			continue
		}
		many := 0
		nodes(edited(t, r, at, at, "x").root, func(n node) bool {
			if !old[n] {
				many++
			}
			return !old[n]
		})
		worst = max(worst, many)
	}
	if worst > 32 {
		t.Errorf("an edit makes %d nodes", worst)
	}
}

// nodes calls f with each node, and goes down where f says so.
func nodes(n node, f func(n node) bool) {
	if x, ok := n.(*inner); f(n) && ok {
		nodes(x.left, f)
		nodes(x.right, f)
	}
}

func TestRoundTrip(t *testing.T) { // P9.6
	for _, s := range append(longer()[:4], "", "a", example, mixed(150)) {
		r := made(t, s)
		for from := 0; from <= len(s); from++ {
			for _, n := range []int{0, 1, 2, 5, 70, 150} {
				if !fits(s, from, from+n) {
					continue
				}
				for _, p := range []string{"", "\n", "\r", "\U0001F600", mixed(90)} {
					now := edited(t, r, from, from+n, p)
					wantCounts(t, edited(t, now, from, from+len(p), s[from:from+n]), s)
				}
			}
		}
	}
}

func TestTwoAdjacentPieces(t *testing.T) { // P9.6
	for _, s := range []string{"", example, mixed(150)} {
		r := made(t, s)
		for _, p := range []string{"\r\n", example, mixed(130)} {
			for at := 0; at <= len(s); at += 1 + len(s)/20 {
				for cut := range len(p) + 1 {
					if !fits(s, at, at) || !fits(p, cut, cut) {
						continue
					}
					once := edited(t, r, at, at, p)
					twice := edited(t, edited(t, r, at, at, p[:cut]), at+cut, at+cut, p[cut:])
					other := edited(t, edited(t, r, at, at, p[cut:]), at, at, p[:cut])
					wantCounts(t, twice, once.Text())
					wantCounts(t, other, once.Text())
				}
			}
		}
	}
}

func TestPlacesAgain(t *testing.T) { // P9.6: Pos of Offset leads Offset to the same offset
	for _, s := range longer() {
		r := made(t, s)
		for line := -1; line <= r.Breaks()+1; line += 1 + r.Breaks()/30 {
			for char := -1; char <= r.Units()+1; char++ {
				at := r.Offset(api.Pos{Line: line, Char: char})
				if again := r.Offset(r.Pos(at)); again != at {
					t.Fatalf("%.80q: %d %d: %d, and then %d", s, line, char, at, again)
				}
			}
		}
	}
}

func TestCopy(t *testing.T) { // a copy is the same rope
	r := made(t, example)
	x := *r
	wantCounts(t, &x, example)
	wantPlaces(t, &x, example)
}

// TestMemory changes the bytes of what was handed in, and of what was told.
func TestMemory(t *testing.T) { // P0.4
	for _, n := range []int{1, 10, most, most + 1, 1000} {
		b := []byte(strings.Repeat("a", n))
		s := unsafe.String(&b[0], n)
		for _, r := range []*Rope{made(t, s), edited(t, made(t, ""), 0, 0, s), edited(t, made(t, s), 0, n, s)} {
			clear(b)
			part, _ := r.Slice(0, n)
			for _, told := range []string{r.Text(), part} {
				if told != strings.Repeat("a", n) {
					t.Fatalf("%d bytes became %q", n, told)
				}
				clear(unsafe.Slice(unsafe.StringData(told), n))
			}
			wantCounts(t, r, strings.Repeat("a", n))
			copy(b, strings.Repeat("a", n))
		}
	}
}
