package relex

import (
	"math/rand/v2"
	"strings"
	"testing"

	"glossator/api"
	"glossator/lex"
)

func span(from, to int) api.Span { return api.Span{From: from, To: to} }

func TestExamples(t *testing.T) { // P13.1
	name, blank := api.Token{Kind: api.TkName, Width: 1, Look: 1}, api.Token{Kind: api.TkBlank, Width: 1, Look: 1}
	for _, x := range []struct {
		from, to string
		old, now api.Span
		want     answer
	}{
		{"a b", "ax b", span(1, 1), span(1, 2), answer{[]api.Token{{Kind: api.TkName, Width: 2, Look: 1}, blank, name}, 0, 1, 1, api.OK}},
		{"a / b", "a /* b", span(3, 3), span(3, 4), answer{[]api.Token{name, blank, {Kind: api.TkOpen, Width: 4, Look: 1}}, 2, 5, 3, api.OK}},
		{"a b c", "a c", span(2, 4), span(2, 2), answer{[]api.Token{name, blank, name}, 1, 4, 2, api.OK}},
		{"a", "a", span(0, 0), span(0, 0), answer{[]api.Token{name}, 0, 0, 0, api.OK}},
		{"a", "ab", span(0, 0), span(1, 2), answer{e: api.ErrArg}},
	} {
		if got := asked(lex.All(x.from), x.to, x.old, x.now); !got.same(x.want) {
			t.Errorf("%q to %q: %v, not %v", x.from, x.to, got, x.want)
		}
	}
}

// TestByHand has the numbers of edits, written out here.
func TestByHand(t *testing.T) { // P13.1
	for _, x := range []struct {
		edit                  edit
		first, oldEnd, newEnd int
	}{
		{changed("", 0, 0, ""), 0, 0, 0},
		{changed("", 0, 0, "a b"), 0, 0, 3},
		{changed("a b", 0, 3, ""), 0, 3, 0},
		{changed("a b", 3, 3, ""), 2, 3, 3},         // an edit that changes nothing at the end: b looks beyond it
		{changed("a;", 2, 2, "b"), 2, 2, 3},         // ; does not look beyond its end
		{changed("a;b", 2, 2, "c"), 2, 3, 3},        // c and b are one name
		{changed("a;b", 2, 2, " "), 2, 2, 3},        // b follows
		{changed(";;;;", 2, 2, ""), 2, 2, 2},        // nothing is scanned anew
		{changed(";;;;", 1, 3, ""), 1, 3, 1},        // what follows stands at From
		{changed("a + b", 2, 3, "-"), 1, 3, 3},      // the blank ahead of + looks at it
		{changed("a b c", 2, 3, "b"), 1, 3, 3},      // put again what stood there
		{changed("ab;cd", 2, 3, "1"), 0, 3, 1},      // the names join
		{changed("x /* y */ z", 2, 4, ""), 1, 3, 6}, // the comment opens no more; the blank behind it stays
		{changed("x y */ z", 2, 2, "/*"), 1, 6, 3},
		{changed("\"a b c\" d", 0, 1, ""), 0, 3, 6}, // all up to the end becomes a string that nobody ends
		{changed("//a\nb", 0, 1, ""), 0, 1, 2},
		{changed("aaaa b", 0, 3, "a a"), 0, 1, 3}, // behind what is put, a stands at 3, where no token began
		{changed("a b c d", 0, 0, "x y "), 0, 0, 4},
		{changed("a b c d", 0, 5, "x y z"), 0, 5, 5}, // the offsets 1 to 4 are common, too, but lie ahead of now's To
	} {
		got := asked(lex.All(x.edit.from), x.edit.to, x.edit.old, x.edit.now)
		if want := (answer{lex.All(x.edit.to), x.first, x.oldEnd, x.newEnd, api.OK}); !got.same(want) {
			t.Errorf("%q to %q: %v, not %v", x.edit.from, x.edit.to, got, want)
		}
		wantEdit(t, x.edit)
	}
}

func TestShort(t *testing.T) { // P13.1
	check := func(x edit) { wantEdit(t, x) }
	eachText(parts(), 3, func(s string) { eachEdit(s, inserts(), check) })
	eachText(few(), 4, func(s string) { eachEdit(s, []string{"", "/", "*", "\"", "\n", "\\", "/*", "*/"}, check) })
	eachText(bytewise(), 4, func(s string) { eachEdit(s, []string{"", "\x80", "\xf0", "\x9f", "a"}, check) })
	eachText([]string{"/", "*", "\"", "\n"}, 6, func(s string) { eachEdit(s, []string{"", "/", "*"}, check) })
}

func TestPrograms(t *testing.T) { // P13.1
	for _, s := range programs() {
		for a := range len(s) + 1 {
			for b := a; b <= min(a+5, len(s)); b++ {
				for _, put := range append(inserts(), s[a:b]) {
					wantEdit(t, changed(s, a, b, put))
				}
			}
			wantEdit(t, changed(s, 0, a, ""))
			wantEdit(t, changed(s, a, len(s), ""))
			wantEdit(t, changed(s, 0, a, s))
			wantEdit(t, changed(s, a, len(s), s))
		}
	}
}

// TestBetween puts between two programs, and takes out, what opens a long token, or closes it.
func TestBetween(t *testing.T) { // P13.1
	for _, s := range programs() {
		for _, x := range programs() {
			for _, put := range append(inserts(), x) {
				wantEdit(t, changed(s+x, len(s), len(s), put))
				wantEdit(t, changed(s+put+x, len(s), len(s)+len(put), ""))
				wantEdit(t, changed(s+put+x, len(s), len(s), "/*"))
				wantEdit(t, changed(s+"/*"+put+x, len(s), len(s)+2, put))
			}
		}
	}
}

// TestCuts has the places where a scan of a part of the text might end in a token of each kind, at each of its bytes.
func TestCuts(t *testing.T) { // P13.1
	for _, token := range append(pieces(), "/* a */", "\"a b\"", "\"\\\\\\\"\"", "longer_than_others", "// to the end") {
		for _, filled := range []string{"(", " ", "a", "é", "\xff", "\""} {
			for n := 40; n < 70; n++ {
				rest := strings.Repeat(filled, n) + token + " /* more */ (\"text\") \U0001F600" + token + strings.Repeat("\xf0\x9f ", 30)
				wantEdit(t, changed(rest, 0, 0, "\""))
				wantEdit(t, changed("a"+rest, 0, 1, ""))
				wantEdit(t, changed("\""+rest, 0, 1, "/*"))
			}
		}
	}
}

func TestMixed(t *testing.T) { // P13.1
	random := rand.New(rand.NewPCG(13, 1))
	for i := range 20000 {
		wantEdit(t, anyEdit(random, anyText(random, random.IntN(60), i%2 == 0)))
	}
	for i := range 60 {
		s := anyText(random, 600, i%3 > 0)
		for range 20 {
			wantEdit(t, anyEdit(random, s))
		}
	}
}

// TestLongTokens has tokens longer than any part that is scanned at once, and edits that open, close and divide them.
func TestLongTokens(t *testing.T) { // P13.1
	for n := 1; n <= 5000; n = n*3/2 + 1 {
		for _, filled := range []string{"a", " ", "0", "é", "*", "\xff", "\\\"", "/", "b;"} {
			long := strings.Repeat(filled, n)
			for _, ahead := range []string{"", "/*", "//", "\"", "a "} {
				s := ahead + long + "*/ \n\" b"
				for _, a := range []int{0, 1, len(ahead), len(s) / 2, len(s) - 5, len(s)} {
					for _, put := range []string{"", "\n", "\"", "*/", "/*"} {
						wantEdit(t, changed(s, min(a, len(s)), min(a+1, len(s)), put))
					}
				}
			}
		}
	}
}

// TestMany has the most tokens that there may be, and so many edits that a scan of the whole text for each would take long.
func TestMany(t *testing.T) { // P13.1
	s := strings.Repeat("let x=1;\n", 1<<17)
	was := lex.All(s)
	if len(was) != 7<<17 {
		t.Fatalf("%d tokens", len(was))
	}
	for a := 0; a+4 < len(s); a += len(s) / 20 {
		a -= a % 9
		got := asked(was, s[:a+4]+"y"+s[a+4:], span(a+4, a+4), span(a+4, a+5))
		if got.e != api.OK || len(got.is) != len(was) || got.first != a/9*7+1 || got.newEnd != got.first+2 || got.oldEnd != got.newEnd {
			t.Fatalf("at %d: %d tokens, %d %d %d %d", a, len(got.is), got.first, got.oldEnd, got.newEnd, got.e)
		}
	}
}
