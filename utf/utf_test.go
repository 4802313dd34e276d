package utf

import (
	"math"
	"strings"
	"testing"
)

// The faces' tables: a character that takes each number of bytes, the edges of RFC 3629's ranges, and what lies just beyond them.

func TestValid(t *testing.T) { // P1.1
	for s, want := range map[string]bool{
		"": true, "a": true, "aé": true, "a€\U0001F600": true, "\ufffd": true, "\x00": true,
		"\u07ff\u0800\ud7ff\ue000\uffff\U00010000\U0010ffff": true,
		"\xc3": false, "\xed\xa0\x80": false, "\xed\xbf\xbf": false, "a\xffb": false, "\x80": false,
		"\xc0\x80": false, "\xc1\xbf": false, "\xe0\x9f\xbf": false, "\xf0\x8f\xbf\xbf": false,
		"\xf4\x90\x80\x80": false, "\xf5\x80\x80\x80": false, "\xef\xbf": false, "é\xc3": false,
	} {
		if Valid(s) != want {
			t.Errorf("Valid(%q) is not %v", s, want)
		}
	}
}

func TestNext(t *testing.T) { // P1.1
	for _, c := range []struct {
		s    string
		at   int
		r    rune
		size int
	}{
		{"aé", 0, 'a', 1}, {"aé", 1, 'é', 2}, {"€b", 0, '€', 3}, {"\U0001F600", 0, 0x1f600, 4},
		{"\x00", 0, 0, 1}, {"\ufffd", 0, 0xfffd, 3}, {"\U0010ffff", 0, 0x10ffff, 4}, {"\ud7ff", 0, 0xd7ff, 3},
		{"\xff\xc3é", 2, 'é', 2}, {"\xe2é", 1, 'é', 2}, // what precedes does not matter
		{"aé", 2, 0, 0}, {"aé", 3, 0, 0}, {"aé", 99, 0, 0}, {"aé", -1, 0, 0}, {"", 0, 0, 0},
		{"aé", math.MaxInt, 0, 0}, {"aé", math.MinInt, 0, 0},
		{"\xff", 0, 0, 0}, {"\xe2\x82", 0, 0, 0}, {"\xed\xa0\x80", 0, 0, 0}, {"\xc0\x80", 0, 0, 0},
		{"\xf4\x90\x80\x80", 0, 0, 0}, {"\ufffd", 1, 0, 0},
	} {
		r, size, ok := Next(c.s, c.at)
		if r != c.r || size != c.size || ok != (c.size > 0) {
			t.Errorf("Next(%q, %d): %d %d %v", c.s, c.at, r, size, ok)
		}
	}
}

func TestNextOfEveryNumber(t *testing.T) { // P1.1: each character, and no surrogate
	for r := rune(0); r <= 0x10ffff; r++ {
		if r >= 0xd800 && r <= 0xdfff {
			s := string([]byte{0xed, byte(0x80 | r>>6&0x3f), byte(0x80 | r&0x3f)})
			if _, _, ok := Next(s, 0); ok || Valid(s) {
				t.Fatalf("the surrogate %x counts as a character", r)
			}
			continue
		}
		s := string(r)
		if x, size, ok := Next(s, 0); x != r || size != len(s) || !ok || !Valid(s) {
			t.Fatalf("%x: %x %d %v", r, x, size, ok)
		}
	}
}

func TestBegin(t *testing.T) { // P1.2
	for _, c := range []struct {
		s        string
		at, want int
	}{
		{"a\U0001F600", 0, 0}, {"a\U0001F600", 1, 1}, {"a\U0001F600", 2, 1}, {"a\U0001F600", 3, 1}, {"a\U0001F600", 4, 1},
		{"a\U0001F600", 5, 5}, {"a\U0001F600", 9, 5}, {"a\U0001F600", -2, 0}, {"", 0, 0}, {"", -1, 0}, {"", 1, 0},
		{"aé", math.MaxInt, 3}, {"aé", math.MinInt, 0},
		{"\xe2\x82a", 1, 1}, {"\xed\xa0\x80", 2, 2}, {"é\x80", 2, 2}, {"\xf0\x9f\x98é", 4, 3}, {"\ufffd", 2, 0},
	} {
		if got := Begin(c.s, c.at); got != c.want {
			t.Errorf("Begin(%q, %d): %d, not %d", c.s, c.at, got, c.want)
		}
	}
}

func TestUnits(t *testing.T) { // P1.3
	for s, want := range map[string]int{
		"": 0, "aé": 2, "a\U0001F600b": 4, "\xff\xc3": 2, "\xe2\x82a": 3, "\uffff": 1, "\U00010000": 2,
		"\U0010ffff": 2, "\ufffd": 1, "\xed\xa0\x80": 3, "\xf0\x9f\x98": 3, "\xf4\x90\x80\x80": 4,
	} {
		if got := Units(s); got != want {
			t.Errorf("Units(%q): %d, not %d", s, got, want)
		}
	}
}

func TestCut(t *testing.T) { // P1.3
	for _, c := range []struct {
		s           string
		units, want int
	}{
		{"a\U0001F600b", 0, 0}, {"a\U0001F600b", 1, 1}, {"a\U0001F600b", 2, 1}, {"a\U0001F600b", 3, 5},
		{"a\U0001F600b", 4, 6}, {"a\U0001F600b", 5, 6}, {"a\U0001F600b", -1, 0},
		{"a\U0001F600b", math.MaxInt, 6}, {"a\U0001F600b", math.MinInt, 0},
		{"", 0, 0}, {"", 1, 0}, {"", -1, 0}, {"\xff\xc3é", 2, 2}, {"\xff\xc3é", 3, 4},
		{"\U0001F600", 1, 0}, {"\xf0\x9f\x98a", 3, 3}, {"\ufffda", 1, 3},
	} {
		if got := Cut(c.s, c.units); got != c.want {
			t.Errorf("Cut(%q, %d): %d, not %d", c.s, c.units, got, c.want)
		}
	}
}

func TestFix(t *testing.T) { // P1.4
	for s, want := range map[string]string{
		"": "", "aé€\U0001F600": "aé€\U0001F600", "a\xff\xfe": "a\ufffd\ufffd", "\xe2\x82a": "\ufffd\ufffda",
		"\ufffd\xff": "\ufffd\ufffd", "\xed\xa0\x80": "\ufffd\ufffd\ufffd", "\xc0\x80": "\ufffd\ufffd",
		"\xf0\x9f\x98\U0001F600": "\ufffd\ufffd\ufffd\U0001F600", "\xf4\x90\x80\x80": "\ufffd\ufffd\ufffd\ufffd",
	} {
		if got := Fix(s); got != want {
			t.Errorf("Fix(%q): %q, not %q", s, got, want)
		}
	}
}

// TestAgainstReference holds every call against the reference: P1.1 to P1.4, each string of up to four bytes from the edges.
func TestAgainstReference(t *testing.T) {
	eachBytes(edgeBytes(), 4, func(s string) {
		checkNext(t, s)
		l := scan(s)
		checkScan(t, s, l)
		checkUnits(t, s, l)
		if t.Failed() {
			t.FailNow()
		}
	})
}

// TestAllPairs is the same for each string of two bytes whatever.
func TestAllPairs(t *testing.T) {
	for n := range 1 << 16 {
		s := string([]byte{byte(n >> 8), byte(n)})
		checkNext(t, s)
		checkScan(t, s, scan(s))
		if t.Failed() {
			t.FailNow()
		}
	}
}

func checkNext(t *testing.T, s string) {
	for at := -1; at <= len(s)+1; at++ {
		var want item
		if at >= 0 && at < len(s) {
			want = itemAt(s, at)
		}
		if !want.ok {
			want.size = 0
		}
		if r, size, ok := Next(s, at); r != want.r || size != want.size || ok != want.ok {
			t.Errorf("Next(%q, %d): %x %d %v, not %x %d %v", s, at, r, size, ok, want.r, want.size, want.ok)
		}
	}
}

func checkScan(t *testing.T, s string, l []item) {
	valid, fixed := true, ""
	for _, x := range l {
		for at := x.at; at < x.at+x.size; at++ {
			if got := Begin(s, at); got != x.at {
				t.Errorf("Begin(%q, %d): %d, not %d", s, at, got, x.at)
			}
		}
		if x.ok {
			fixed += s[x.at : x.at+x.size]
		} else {
			valid = false
			fixed += "\ufffd"
		}
	}
	if Begin(s, -1) != 0 || Begin(s, len(s)) != len(s) || Begin(s, len(s)+1) != len(s) {
		t.Errorf("Begin(%q) outside: %d %d %d", s, Begin(s, -1), Begin(s, len(s)), Begin(s, len(s)+1))
	}
	if Valid(s) != valid {
		t.Errorf("Valid(%q) is not %v", s, valid)
	}
	if got := Fix(s); got != fixed {
		t.Errorf("Fix(%q): %q, not %q", s, got, fixed)
	}
}

func checkUnits(t *testing.T, s string, l []item) {
	units := 0
	for _, x := range l {
		for n := range x.units() { // the second unit of a character is inside it
			if got := Cut(s, units+n); got != x.at {
				t.Errorf("Cut(%q, %d): %d, not %d", s, units+n, got, x.at)
			}
		}
		units += x.units()
	}
	if Cut(s, -1) != 0 || Cut(s, units) != len(s) || Cut(s, units+1) != len(s) {
		t.Errorf("Cut(%q) outside: %d %d %d", s, Cut(s, -1), Cut(s, units), Cut(s, units+1))
	}
	if got := Units(s); got != units {
		t.Errorf("Units(%q): %d, not %d", s, got, units)
	}
}

func TestRepair(t *testing.T) { // P1.5
	eachText(4, func(s string) {
		fixed := Fix(s)
		if !Valid(fixed) || Units(fixed) != Units(s) {
			t.Fatalf("Fix(%q): %q, %d units, not %d", s, fixed, Units(fixed), Units(s))
		}
		if Valid(s) && fixed != s {
			t.Fatalf("Fix(%q): %q, though it is valid", s, fixed)
		}
		if Fix(fixed) != fixed {
			t.Fatalf("Fix of %q is not itself", fixed)
		}
	})
}

func TestRoundTrip(t *testing.T) { // P1.6
	eachText(4, func(s string) {
		for at := 0; at < len(s); at++ {
			begin := Begin(s, at)
			if got := Cut(s, Units(s[:begin])); got != begin {
				t.Fatalf("%q: the units before %d lead to %d", s, begin, got)
			}
		}
		all := Units(s)
		for n := 0; n <= all+2; n++ {
			at := Cut(s, n)
			got := Units(s[:at])
			_, size, ok := Next(s, at)
			inside := ok && size == 4 && got == n-1 && n < all
			if got != min(n, all) && !inside {
				t.Fatalf("%q: before Cut %d are %d units of %d", s, n, got, all)
			}
		}
	})
}

func TestConcatenation(t *testing.T) { // P1.7
	var all []string
	eachText(2, func(s string) { all = append(all, s) })
	for _, a := range all {
		if !Valid(a) {
			continue
		}
		for _, b := range all {
			if Units(a+b) != Units(a)+Units(b) {
				t.Fatalf("%q and %q: %d units, not %d and %d", a, b, Units(a+b), Units(a), Units(b))
			}
		}
	}
}

// TestLong has strings as long as a message may be: a character counts wherever it stands.
func TestLong(t *testing.T) {
	const n = 1 << 16
	s := strings.Repeat("\U0001F600", n)
	if Units(s) != 2*n || Cut(s, 2*n-1) != 4*(n-1) || Begin(s, 4*n-1) != 4*(n-1) || !Valid(s) || Fix(s) != s {
		t.Errorf("%d characters: %d units", n, Units(s))
	}
	bad := strings.Repeat("\x80", 4*n)
	if Units(bad) != 4*n || Cut(bad, 4*n-1) != 4*n-1 || Begin(bad, 4*n-1) != 4*n-1 || Valid(bad) || Fix(bad) != strings.Repeat("\ufffd", 4*n) {
		t.Errorf("%d invalid bytes: %d units", 4*n, Units(bad))
	}
}
