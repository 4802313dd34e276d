package dfa

import (
	"math"
	"slices"
	"strings"
	"sync"
	"testing"

	"glossator/api"
)

func TestExamples(t *testing.T) { // P11.4, P11.6
	for _, x := range []struct {
		s           string
		kind        uint8
		width, look int
	}{
		{"let x", api.TkLet, 3, 1}, {"lets", api.TkName, 4, 1}, {"_1 ", api.TkName, 2, 1},
		{"/* a */b", api.TkBlock, 7, 0}, {"/* a *", api.TkOpen, 6, 1}, {"// a", api.TkLine, 4, 1}, {"/a", api.TkOver, 1, 1},
		{`"a\"b"c`, api.TkText, 6, 0}, {`"a`, api.TkBroken, 2, 1}, {`"a\`, api.TkBroken, 3, 1}, {`""`, api.TkText, 2, 0},
		{"==", api.TkEqual, 2, 0}, {"=a", api.TkAssign, 1, 1}, {"&&", api.TkAnd, 2, 0}, {"&", api.TkOdd, 1, 1}, {"#", api.TkOdd, 1, 0}, {"é", api.TkOdd, 2, 0},
		{"\xff", api.TkOdd, 1, 1}, {"\xffa", api.TkOdd, 1, 2}, {"\xffabcd", api.TkOdd, 1, 3},
		{"12a", api.TkInt, 2, 1}, {" \na", api.TkBlank, 2, 1},
	} {
		wantToken(t, x.s, 0, api.Token{Kind: x.kind, Width: x.width, Look: x.look})
		wantToken(t, "\xe2\""+x.s, 2, api.Token{Kind: x.kind, Width: x.width, Look: x.look})
	}
}

func wantToken(t *testing.T, s string, at int, want api.Token) {
	t.Helper()
	if x, ok := Scan(s, at); !ok || x != want {
		t.Errorf("Scan(%.80q, %d): %v %v, not %v", s, at, x, ok, want)
	}
}

// want holds Scan against the chapter's definition at every offset of s, and around it.
func want(t *testing.T, s string) {
	t.Helper()
	for at := -2; at < len(s)+3; at++ {
		x, ok := Scan(s, at)
		if y, found := wantScan(s, at); x != y || ok != found {
			t.Fatalf("Scan(%.80q, %d): %v %v, not %v %v", s, at, x, ok, y, found)
		}
	}
}

func TestCounts(t *testing.T) { // P11.1, P11.2
	if Classes() != 24 || States() != 35 {
		t.Errorf("%d classes, %d states", Classes(), States())
	}
}

func TestClass(t *testing.T) { // P11.1
	many := make([]int, 24)
	for r := rune(-1 << 12); r < 1<<21; r++ { // all characters, surrogates, and numbers on both sides of them
		if Class(r) != wantClass(min(max(r, -1), 0x80)) {
			t.Fatalf("Class(%#x): %d", r, Class(r))
		}
		many[Class(r)]++
	}
	for class, l := range characters()[1:] {
		if many[class+1] != len(l) {
			t.Errorf("%d characters of class %d", many[class+1], class+1)
		}
	}
}

func TestClassByHand(t *testing.T) { // P11.1
	for class, l := range map[int]string{
		1: " \t", 2: "\n\r", 3: "abyzABYZ_", 4: "0189", 5: `"`, 6: `\`, 7: "/", 8: "*", 9: "=", 10: "!", 11: "<", 12: ">", 13: "&", 14: "|", 15: "(", 16: ")", 17: "{", 18: "}", 19: ",", 20: ";", 21: "+", 22: "-", 23: "%",
		0: "\x00\x01\x08\x0b\x0c\x0e\x1f#$'.:?@[]^`~\x7f\u0080\u0085\u00a0éßª²\u2028€٣Ａ\ufeff\ufffd\U0001F600\U0010ffff",
	} {
		for _, r := range l {
			if Class(r) != class {
				t.Errorf("Class(%q): %d", r, Class(r))
			}
		}
	}
}

func TestClassOfNoCharacter(t *testing.T) { // P11.1
	for _, r := range []rune{-1, -2, math.MinInt32, math.MinInt32 + 1, math.MaxInt32, math.MaxInt32 - 1, 0xd800, 0xdbff, 0xdc00, 0xdfff, 0x110000, 0x110001} {
		if Class(r) != 0 {
			t.Errorf("Class(%#x): %d", r, Class(r))
		}
	}
	for r := rune(0); r < 0x80; r++ { // numbers that wrap round to characters in fewer bits
		for bits := 7; bits < 31; bits++ {
			for _, x := range []rune{r + 1<<bits, r - 1<<bits, ^r, -r - 1, math.MinInt32 + r} {
				if Class(x) != 0 {
					t.Errorf("Class(%#x): %d", x, Class(x))
				}
			}
		}
	}
}

func TestTable(t *testing.T) { // P11.2: all states and classes, and those just beyond
	for state := -300; state < 300; state++ {
		if Kind(state) != wantKind(state) {
			t.Errorf("Kind(%d): %d", state, Kind(state))
		}
		for class := -300; class < 300; class++ {
			if Step(state, class) != wantStep(state, class) {
				t.Errorf("Step(%d, %d): %d", state, class, Step(state, class))
			}
		}
	}
}

func TestTableByHand(t *testing.T) { // P11.2
	for _, x := range [][3]int{
		{0, 0, 34}, {0, 6, 34}, {0, 1, 1}, {0, 2, 1}, {0, 3, 7}, {0, 4, 8}, {0, 5, 9}, {0, 7, 2}, {0, 8, 32}, {0, 9, 12}, {0, 22, 31}, {0, 23, 33}, {0, 24, -1}, {0, -1, -1},
		{2, 7, 3}, {2, 8, 4}, {2, 9, -1}, {3, 0, 3}, {3, 1, 3}, {3, 2, -1}, {3, 23, 3}, {4, 2, 4}, {4, 7, 4}, {4, 8, 5}, {5, 2, 4}, {5, 7, 6}, {5, 8, 5}, {6, 0, -1}, {6, 8, -1},
		{7, 2, -1}, {7, 3, 7}, {7, 4, 7}, {7, 5, -1}, {8, 3, -1}, {8, 4, 8}, {9, 0, 9}, {9, 2, -1}, {9, 5, 11}, {9, 6, 10}, {10, 0, 9}, {10, 2, -1}, {10, 5, 9}, {10, 6, 9}, {11, 5, -1},
		{12, 9, 13}, {14, 9, 15}, {16, 9, 17}, {18, 9, 19}, {20, 13, 21}, {20, 14, -1}, {22, 14, 23}, {22, 13, -1}, {13, 9, -1}, {34, 0, -1}, {35, 0, -1}, {-1, 0, -1},
	} {
		if Step(x[0], x[1]) != x[2] {
			t.Errorf("Step(%d, %d): %d, not %d", x[0], x[1], Step(x[0], x[1]), x[2])
		}
	}
	for state, kind := range map[int]uint8{0: 0, 1: api.TkBlank, 2: api.TkOver, 5: api.TkOpen, 10: api.TkBroken, 20: api.TkOdd, 21: api.TkAnd, 32: api.TkTimes, 33: api.TkRest, 34: api.TkOdd, 35: 0, -1: 0} {
		if Kind(state) != kind {
			t.Errorf("Kind(%d): %d", state, Kind(state))
		}
	}
}

func TestTableFar(t *testing.T) { // P11.2
	for _, n := range far() {
		if Kind(n) != 0 {
			t.Errorf("Kind(%d): %d", n, Kind(n))
		}
		for _, m := range append(far(), 0, 1, 7, 8, 23, 34) {
			if Step(n, m) != -1 || Step(m, n) != -1 {
				t.Errorf("Step(%d, %d): %d; %d", n, m, Step(n, m), Step(m, n))
			}
		}
	}
}

// TestFirstCall has each call find the table not built yet.
func TestFirstCall(t *testing.T) { // P11.2 to P11.4
	for name, right := range map[string]func() bool{
		"Step": func() bool { return Step(0, 23) == 33 },
		"none": func() bool { return Step(1, 0) == -1 },
		"Kind": func() bool { return Kind(1) == api.TkBlank },
		"Word": func() bool { return Word("let") == api.TkLet },
		"Scan": func() bool { x, ok := Scan("a1 ", 0); return ok && x == api.Token{Kind: api.TkName, Width: 2, Look: 1} },
	} {
		once, table = sync.Once{}, [states]row{}
		if !right() {
			t.Errorf("%s, called first", name)
		}
	}
}

// TestManyAtOnce has goroutines call while the table is not built yet.
func TestManyAtOnce(t *testing.T) { // P11.4
	for range 50 {
		once, table = sync.Once{}, [states]row{}
		var all sync.WaitGroup
		got := make([]api.Token, 8)
		for i := range got {
			all.Go(func() { got[i], _ = Scan(" /* a */", 1) })
		}
		all.Wait()
		for _, x := range got {
			if x != (api.Token{Kind: api.TkBlock, Width: 7}) {
				t.Fatal(got)
			}
		}
	}
}

func TestWord(t *testing.T) { // P11.3
	for s, kind := range map[string]uint8{
		"let": api.TkLet, "fn": api.TkFn, "if": api.TkIf, "else": api.TkElse, "while": api.TkWhile, "return": api.TkReturn, "true": api.TkTrue, "false": api.TkFalse,
		"a": api.TkName, "z": api.TkName, "A": api.TkName, "Z": api.TkName, "_": api.TkName, "__": api.TkName, "a1": api.TkName, "_0": api.TkName, "x_9Y": api.TkName, "l": api.TkName, "Let": api.TkName, "LET": api.TkName, "letlet": api.TkName, "let_": api.TkName, "if1": api.TkName,
		"": 0, "1": 0, "1a": 0, "1let": 0, " ": 0, "let ": 0, " let": 0, "le t": 0, "let\n": 0, "let;": 0, "a-b": 0, "a\x00": 0, "\x00": 0, "=": 0, "\"a\"": 0, "//a": 0, "/*a*/": 0, "é": 0, "aé": 0, "éa": 0, "a\ufffd": 0, "ａ": 0,
		"\xff": 0, "a\xff": 0, "\xffa": 0, "let\xff": 0, "a\xc3": 0, "a\xe2\x82b": 0, "le\x80t": 0, "ı": 0, "a\u0300": 0, "٣": 0, "a٣": 0,
		strings.Repeat("a", 1<<16): api.TkName, strings.Repeat("let", 1<<14): api.TkName, strings.Repeat("a", 1<<16) + " ": 0, strings.Repeat("9", 1<<16): 0,
	} {
		if Word(s) != kind {
			t.Errorf("Word(%.80q): %d, not %d", s, Word(s), kind)
		}
	}
}

// TestWordAround has every byte put into, and taken out of, each place of each keyword, and every string of up to two bytes.
func TestWordAround(t *testing.T) { // P11.3
	for _, w := range words() {
		if Word(w) != wantWord(w) || Word(w) < api.TkLet || Word(w) > api.TkFalse {
			t.Errorf("Word(%q): %d", w, Word(w))
		}
		for i := 0; i <= len(w); i++ {
			for c := range 256 {
				wantWordOf(t, w[:i]+string([]byte{byte(c)})+w[i:])
				if i < len(w) {
					wantWordOf(t, w[:i]+string([]byte{byte(c)})+w[i+1:])
				}
			}
			if i < len(w) {
				wantWordOf(t, w[:i]+w[i+1:])
			}
			wantWordOf(t, w[:i])
			wantWordOf(t, w[i:])
		}
		for _, v := range words() {
			wantWordOf(t, w+v)
		}
		wantWordOf(t, strings.ToUpper(w))
		wantWordOf(t, strings.ToUpper(w[:1])+w[1:])
	}
	for c := range 256 {
		wantWordOf(t, string([]byte{byte(c)}))
		for d := range 256 {
			wantWordOf(t, string([]byte{byte(c), byte(d)}))
		}
	}
	eachText(parts(), 3, func(s string) { wantWordOf(t, s) })
}

func wantWordOf(t *testing.T, s string) {
	t.Helper()
	if Word(s) != wantWord(s) {
		t.Errorf("Word(%q): %d, not %d", s, Word(s), wantWord(s))
	}
}

func TestScanShort(t *testing.T) { // P11.4
	eachText(parts(), 3, func(s string) { want(t, s) })
	eachText(few(), 6, func(s string) { want(t, s) })
}

func TestScanBytes(t *testing.T) { // P11.4: every string of two bytes, alone and within a comment and a text
	for c := range 256 {
		for d := range 256 {
			s := string([]byte{byte(c), byte(d)})
			for _, x := range []string{s, "a" + s, "//" + s, "/*" + s + "*/", "\"" + s + "\"", "\"\\" + s} {
				want(t, x)
			}
		}
	}
}

func TestScanLong(t *testing.T) { // P11.4
	for _, s := range append(programs(), mixed(400, 60)...) {
		want(t, s)
	}
	for _, s := range []string{"a", " ", "0", "é", "\xff", "\"", "\\\"", "/", "*", "&", "\n", "let "} {
		long := strings.Repeat(s, 1<<15)
		for _, x := range []string{long, "//" + long, "/*" + long, "\"" + long, long + "\""} {
			for _, at := range []int{0, 1, 2, len(x) / 2, len(x) - 1, len(x)} {
				got, ok := Scan(x, at)
				if y, found := wantScan(x, at); got != y || ok != found {
					t.Errorf("Scan(%.20q.., %d): %v %v, not %v %v", x, at, got, ok, y, found)
				}
			}
		}
	}
}

func TestScanOutside(t *testing.T) { // P11.4
	for _, s := range append(append(programs(), mixed(20, 9)...), "", "a", "\xff", "é") {
		for _, at := range append(far(), -3, -2, -1, len(s), len(s)+1, len(s)+2) {
			if at >= 0 && at < len(s) {
				continue
			}
			if x, ok := Scan(s, at); ok || x != (api.Token{}) {
				t.Errorf("Scan(%.80q, %d): %v %v", s, at, x, ok)
			}
		}
	}
}

// TestOperators has each operator, and what a character more or one less makes of it.
func TestOperators(t *testing.T) { // P11.4, P11.5
	for i, s := range operators() {
		kind := api.TkLeft + uint8(i)
		look := 0
		if strings.Contains("/=!<>", s) {
			look = 1
		}
		wantToken(t, s, 0, api.Token{Kind: kind, Width: len(s), Look: look})
		wantToken(t, s+"a", 0, api.Token{Kind: kind, Width: len(s), Look: look})
		wantToken(t, "a"+s+"é", 1, api.Token{Kind: kind, Width: len(s), Look: look})
	}
	for s, width := range map[string]int{"===": 2, "=!": 1, "!!=": 1, "<<": 1, "<=>": 2, ">==": 2, "&&&": 2, "&|": 1, "|&": 1, "|||": 2, "++": 1, "--": 1, "**": 1, "*/": 1, "%=": 1, "+=": 1, "=<": 1, "/=": 1, "!é": 1} {
		if x, ok := Scan(s, 0); !ok || x.Width != width {
			t.Errorf("Scan(%q, 0): %v", s, x)
		}
	}
}

// TestUnended has comments and texts that nobody ends, line ends within, and escapes at the very end.
func TestUnended(t *testing.T) { // P11.4
	for _, x := range []struct {
		s           string
		kind        uint8
		width, look int
	}{
		{"/*", api.TkOpen, 2, 1}, {"/*/", api.TkOpen, 3, 1}, {"/**", api.TkOpen, 3, 1}, {"/* \n\r", api.TkOpen, 5, 1}, {"/* * / ", api.TkOpen, 7, 1}, {"/*\xff", api.TkOpen, 3, 1}, {"/*é*", api.TkOpen, 5, 1}, {"/*\"*", api.TkOpen, 4, 1}, {"/*//", api.TkOpen, 4, 1}, {"/*\\*", api.TkOpen, 4, 1},
		{"/**/", api.TkBlock, 4, 0}, {"/***/", api.TkBlock, 5, 0}, {"/*/*/", api.TkBlock, 5, 0}, {"/**/*/", api.TkBlock, 4, 0}, {"/*\n*/\n", api.TkBlock, 5, 0}, {"/*\r\n*/*/", api.TkBlock, 6, 0}, {"/*\xff*/", api.TkBlock, 5, 0}, {"/*\xe2\x82*/", api.TkBlock, 6, 0}, {"/*\\*/", api.TkBlock, 5, 0}, {"/* * */a", api.TkBlock, 7, 0},
		{"//", api.TkLine, 2, 1}, {"//\n", api.TkLine, 2, 1}, {"//a\r\n", api.TkLine, 3, 1}, {"// /* \rx", api.TkLine, 6, 1}, {"//\xff\n", api.TkLine, 3, 1}, {"//é\xe2\x82\r", api.TkLine, 6, 1}, {"//\\\n", api.TkLine, 3, 1}, {"///*\"\t", api.TkLine, 6, 1}, {"//\v\u2028\u0085", api.TkLine, 8, 1},
		{"\"", api.TkBroken, 1, 1}, {"\"\n\"", api.TkBroken, 1, 1}, {"\"a\r\n", api.TkBroken, 2, 1}, {"\"\\", api.TkBroken, 2, 1}, {"\"\\\n", api.TkBroken, 2, 1}, {"\"\\\r\"", api.TkBroken, 2, 1}, {"\"\\\"", api.TkBroken, 3, 1}, {"\"\\\\", api.TkBroken, 3, 1}, {"\"\\\\\\\n", api.TkBroken, 4, 1}, {"\"\xff", api.TkBroken, 2, 1}, {"\"\\\xff", api.TkBroken, 3, 1}, {"\"\\é", api.TkBroken, 4, 1}, {"\"//\n", api.TkBroken, 3, 1}, {"\"/*\n*/", api.TkBroken, 3, 1},
		{"\"\\\\\"", api.TkText, 4, 0}, {"\"\\\"\"", api.TkText, 4, 0}, {"\"\xff\"", api.TkText, 3, 0}, {"\"\\\xff\"", api.TkText, 4, 0}, {"\"\\\xe2\x82\"", api.TkText, 5, 0}, {"\"\\é\"", api.TkText, 5, 0}, {"\"//\"", api.TkText, 4, 0}, {"\"\t\v\x00\"a", api.TkText, 5, 0}, {"\"\\a\\\\\"\"", api.TkText, 6, 0}, {"\"\u2028\"", api.TkText, 5, 0},
	} {
		wantToken(t, x.s, 0, api.Token{Kind: x.kind, Width: x.width, Look: x.look})
		wantToken(t, " é"+x.s, 3, api.Token{Kind: x.kind, Width: x.width, Look: x.look})
		want(t, x.s)
	}
}

// TestInvalid has bytes that are no characters, with ever more bytes behind them.
func TestInvalid(t *testing.T) { // P11.4, P11.6
	for _, behind := range []string{"abcdef", "      ", "\n\r\n\r\n", "\xff\xff\xff\xff", "éé", "€€", "\"\"\"\"\"", "/*/*/*"} {
		for n := 0; n <= len(behind); n++ {
			wantToken(t, "\xff"+behind[:n], 0, api.Token{Kind: api.TkOdd, Width: 1, Look: min(3, n+1)})
			wantToken(t, "a \xc0"+behind[:n], 2, api.Token{Kind: api.TkOdd, Width: 1, Look: min(3, n+1)})
			for _, s := range invalid() {
				for _, x := range []string{s, "a" + s, "\"" + s, "//" + s, "/*" + s} {
					want(t, x+behind[:n])
				}
			}
		}
	}
	for _, s := range []string{"\ufffd", "é", "€", "\U0001F600", "\u0080", "\U0010ffff"} { // characters: nothing behind them matters
		for _, behind := range []string{"", "a", "\x80", "\x80\x80\x80", "\xff"} {
			wantToken(t, s+behind, 0, api.Token{Kind: api.TkOdd, Width: len(s)})
		}
		for at := 1; at < len(s); at++ { // amid one, its bytes are invalid
			wantToken(t, s, at, api.Token{Kind: api.TkOdd, Width: 1, Look: min(3, len(s)-at)})
			wantToken(t, s+"abcd", at, api.Token{Kind: api.TkOdd, Width: 1, Look: 3})
			wantToken(t, "\"a"+s+"\"", 2+at, api.Token{Kind: api.TkOdd, Width: 1, Look: min(3, len(s)-at+1)})
		}
	}
}

// wantLongest asks that the token is of just one kind of DOC.md, its own, and no longer beginning of the rest of any.
func wantLongest(t *testing.T, s string) {
	t.Helper()
	for at := range len(s) {
		x, _ := Scan(s, at)
		found := false
		for _, n := range ends(s[at:]) {
			if n < x.Width {
				continue
			}
			l := kindsOf(s[at:], n)
			found = found || n == x.Width && slices.Equal(l, []uint8{x.Kind})
			if n > x.Width && len(l) > 0 {
				t.Fatalf("%.80q, at %d: %v, but %d bytes are of %v", s, at, x, n, l)
			}
		}
		if !found {
			t.Fatalf("%.80q, at %d: %v, but these bytes are of %v", s, at, x, kindsOf(s[at:], x.Width))
		}
	}
}

func TestLongest(t *testing.T) { // P11.5
	eachText(parts(), 2, func(s string) { wantLongest(t, s) })
	eachText(few(), 5, func(s string) { wantLongest(t, s) })
	for _, s := range append(programs(), mixed(150, 40)...) {
		wantLongest(t, s)
	}
	for c := range 256 {
		for d := range 256 {
			wantLongest(t, string([]byte{byte(c), byte(d)}))
		}
	}
}

// tails are what comes to stand behind what a token's Look has.
func tails() []string {
	l := append(append(parts(), invalid()...), "", "*/", "\\\"", "\x80\x80\x80", "\xbf\"", "/\n", "==", "let", "\n\"")
	return append(l, "a */ \" \n b", "\xff\xff\xff\xff")
}

// wantLook replaces the bytes behind each token and its Look, unless the text's end was examined.
func wantLook(t *testing.T, s string) {
	t.Helper()
	for at := range len(s) {
		x, _ := Scan(s, at)
		end := at + x.Width + x.Look
		if end > len(s)+1 {
			t.Fatalf("%.80q, at %d: %v examines more than the end", s, at, x)
		}
		if end > len(s) {
			continue
		}
		for _, tail := range tails() {
			if y, ok := Scan(s[:end]+tail, at); !ok || x != y {
				t.Fatalf("%.80q, at %d: %v, but %v once %q stands at %d", s, at, x, y, tail, end)
			}
		}
	}
}

func TestLook(t *testing.T) { // P11.6
	eachText(parts(), 2, func(s string) { wantLook(t, s) })
	eachText(few(), 4, func(s string) { wantLook(t, s) })
	eachText(append(invalid(), "é", "a"), 3, func(s string) { wantLook(t, s) })
	for _, s := range append(programs(), mixed(100, 40)...) {
		wantLook(t, s)
	}
}

// TestLookIsNeeded has, for each Look above 0, a text that is different behind it and a token that is another.
func TestLookIsNeeded(t *testing.T) { // P11.6
	for s, other := range map[string]string{
		"a ": "ab", "0 ": "00", " a": "  ", "//\n": "//a", "/a": "//", "=a": "==", "!a": "!=", "<a": "<=", ">a": ">=", "&a": "&&", "|a": "||", "\"\n": "\"\"", "\"\\\n": "\"\\a",
		"/*": "/*a", "/**": "/**/", "\"": "\"\"", "\"a\\": "\"a\\\"", "a": "ab", "\xc3": "é", "\xe2\x82": "€", "\xf0\x9f\x98": "\U0001F600",
	} {
		x, _ := Scan(s, 0)
		if y, _ := Scan(other, 0); x.Look == 0 || x.Width == y.Width {
			t.Errorf("%q: %v; %q: %v", s, x, other, y)
		}
	}
}

// wantCovered scans token after token, until none is left.
func wantCovered(t *testing.T, s string) {
	t.Helper()
	at := 0
	for {
		x, ok := Scan(s, at)
		if !ok {
			break
		}
		if x.Width < 1 || x.Width > len(s)-at || x.Kind == 0 || x.Look < 0 {
			t.Fatalf("%.80q, at %d: %v", s, at, x)
		}
		at += x.Width
	}
	if at != len(s) {
		t.Fatalf("%.80q: %d bytes covered", s, at)
	}
}

func TestCoverage(t *testing.T) { // P11.7
	eachText(parts(), 3, func(s string) { wantCovered(t, s) })
	eachText(few(), 6, func(s string) { wantCovered(t, s) })
	for _, s := range append(append(programs(), mixed(400, 60)...), mixed(9, 5000)...) {
		wantCovered(t, s)
	}
	var all []byte
	for c := range 256 {
		all = append(all, byte(c))
	}
	wantCovered(t, string(all))
	slices.Reverse(all)
	wantCovered(t, string(all))
}

func TestCoverageByHand(t *testing.T) { // P11.7
	s := "let x1=-2;//\xff\n\"a\\\"b\"c\"d\r&&&€\xe2/*"
	var got []api.Token
	for at := 0; at < len(s); at += got[len(got)-1].Width {
		x, _ := Scan(s, at)
		got = append(got, x)
	}
	if !slices.Equal(got, []api.Token{
		{Kind: api.TkLet, Width: 3, Look: 1}, {Kind: api.TkBlank, Width: 1, Look: 1}, {Kind: api.TkName, Width: 2, Look: 1}, {Kind: api.TkAssign, Width: 1, Look: 1}, {Kind: api.TkMinus, Width: 1}, {Kind: api.TkInt, Width: 1, Look: 1}, {Kind: api.TkSemi, Width: 1},
		{Kind: api.TkLine, Width: 3, Look: 1}, {Kind: api.TkBlank, Width: 1, Look: 1}, {Kind: api.TkText, Width: 6}, {Kind: api.TkName, Width: 1, Look: 1}, {Kind: api.TkBroken, Width: 2, Look: 1}, {Kind: api.TkBlank, Width: 1, Look: 1},
		{Kind: api.TkAnd, Width: 2}, {Kind: api.TkOdd, Width: 1, Look: 1}, {Kind: api.TkOdd, Width: 3}, {Kind: api.TkOdd, Width: 1, Look: 3}, {Kind: api.TkOpen, Width: 2, Look: 1},
	}) {
		t.Errorf("%v", got)
	}
}
