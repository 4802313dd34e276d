package json

import (
	"strconv"
	"strings"
	"testing"

	"glossator/api"
)

func nested(left, middle, right string, n int) string {
	return strings.Repeat(left, n) + middle + strings.Repeat(right, n)
}

// wantValue asks that the text is parsed as that value.
func wantValue(t *testing.T, s string, want api.Value) {
	t.Helper()
	v, at, e := Parse(s)
	if e != api.OK || at != 0 || !same(v, want) {
		t.Errorf("Parse(%.60q): %v, %d, %d, not %v", s, v, at, e, want)
	}
}

// wantError asks for that error there, and for no value beside it.
func wantError(t *testing.T, s string, e api.Errno, at int) {
	t.Helper()
	v, gotAt, got := Parse(s)
	if got != e || gotAt != at || !same(v, api.Value{}) {
		t.Errorf("Parse(%.60q): %v, %d, %d, not %d, %d", s, v, gotAt, got, at, e)
	}
}

func TestValues(t *testing.T) { // P3.1
	null, yes, no := api.Value{}, api.Value{Kind: api.JTrue}, api.Value{Kind: api.JFalse}
	for s, want := range map[string]api.Value{
		"null": null, "true": yes, "false": no, `""`: text(""), "[]": list(), "{}": object(), "[ ]": list(), "{\n}": object(),
		"7": number("7"), "[null]": list(null), "[[],{}]": list(list(), object()), "[1,2,1]": list(number("1"), number("2"), number("1")),
		`{"":""}`:                                object(field("", text(""))),
		`{"b":1,"a":2}`:                          object(field("b", number("1")), field("a", number("2"))),
		`[true,false,"null",null,-0]`:            list(yes, no, text("null"), null, number("-0")),
		`{"a":{"a":{}},"b":[{"a":0}]}`:           object(field("a", object(field("a", object()))), field("b", list(object(field("a", number("0")))))),
		`{"a":[1,-0.5e+3,""],"b":null,"a":true}`: object(field("a", yes), field("b", null)),
		"\"[[[]}}\u2028\x7f\"":                   text("[[[]}}\u2028\x7f"),
	} {
		wantValue(t, s, want)
	}
}

func TestNumbers(t *testing.T) { // P3.1: as it is written
	for _, s := range []string{
		"0", "-0", "1", "9", "10", "-120", "0.0", "-0.50", "1.25", "0e0", "0E0", "1e5", "1E+05", "1e-00", "-0.5e+3", "9.99E-9",
		"123456789012345678901234567890", "1e999999", "0.000000000000000000000000000000000001",
	} {
		wantValue(t, s, number(s))
		wantValue(t, s+" ", number(s))
		wantValue(t, "["+s+","+s+"]", list(number(s), number(s)))
		wantValue(t, `{"a":`+s+`}`, object(field("a", number(s))))
	}
}

func TestStrings(t *testing.T) { // P3.1
	for s, want := range map[string]string{
		`"a"`: "a", `"\"\\\/\b\f\n\r\t"`: "\"\\/\x08\x0c\x0a\x0d\x09", `"/'"`: "/'", "\" \x7f\"": " \x7f",
		"\"é€\U0001F600\ufffd\ufeff\U0010ffff\"": "é€\U0001F600\ufffd\ufeff\U0010ffff",
		`"\u0000\u001f\u0022\u005C"`:             "\x00\x1f\"\\",
		`"\u00e9\u00E9\uABCD\uabcd\uaBcD"`:       "éé\uabcd\uabcd\uabcd",
		`"\u09af\u0AF9\u0a9F"`:                   "\u09af\u0af9\u0a9f",
		`"\ud7ff\ue000\ufffd\uffff\uFFFE"`:       "\ud7ff\ue000\ufffd\uffff\ufffe",
		`"\\u0041\u00411"`:                       `\u0041A1`,
	} {
		wantValue(t, s, text(want))
		wantValue(t, "{"+s+":"+s+"}", object(field(want, text(want))))
	}
}

func TestSurrogates(t *testing.T) { // P3.1
	for s, want := range map[string]string{
		`\uD83D\uDE00`: "\U0001F600", `\ud83d\ude00`: "\U0001F600", `\uD83d\udE00`: "\U0001F600",
		`\ud800\udc00`: "\U00010000", `\uDBFF\uDFFF`: "\U0010FFFF", `\ud800\udfff`: "\U000103FF", `\udbff\udc00`: "\U0010FC00",
		`\ud800`: "\ufffd", `\udbff`: "\ufffd", `\udc00`: "\ufffd", `\udfff`: "\ufffd", `\uD800`: "\ufffd", `\uDFFF`: "\ufffd",
		`\ud800\ud800`: "\ufffd\ufffd", `\udc00\udc00`: "\ufffd\ufffd", `\udc00\ud800`: "\ufffd\ufffd", `\ude00\ud83d\ude00`: "\ufffd\U0001F600",
		`\ud83d\ud83d\ude00`: "\ufffd\U0001F600", `\ud83d\ude00\ude00`: "\U0001F600\ufffd", `\ud83d\ude00\ud83d`: "\U0001F600\ufffd",
		`\ud83d\ude00\ud83d\ude00`: "\U0001F600\U0001F600",
		`\ud83dx\ude00`:            "\ufffdx\ufffd", `\ud83d\n\ude00`: "\ufffd\n\ufffd", `\ud83d\u0041`: "\ufffdA", `\ud83d\\ude00`: "\ufffd\\ude00",
		`\ud83dude00`: "\ufffdude00", `\ud83d\ue000`: "\ufffd\ue000", `\ud83d\udbff`: "\ufffd\ufffd", `\ud7ff\udc00`: "\ud7ff\ufffd",
		"\\ud83d\ufffd\\ude00": "\ufffd\ufffd\ufffd", "\\ud83d\U0001F600": "\ufffd\U0001F600",
		`\u00e9\uD83D\uDE00\ud800x\uDC00\/`: "é\U0001F600\ufffdx\ufffd/",
	} {
		wantValue(t, `"`+s+`"`, text(want))
	}
	wantValue(t, `["\ud83d","\ude00"]`, list(text("\ufffd"), text("\ufffd")))
}

// TestEveryUnit has each code unit as an escape, in either case, and each character above them as a pair.
func TestEveryUnit(t *testing.T) { // P3.1
	digits := func(u int) string { return strconv.FormatInt(int64(u)+0x10000, 16)[1:] }
	for u := range 0x10000 {
		want := string(rune(u)) // of a surrogate it makes U+FFFD
		wantValue(t, `"\u`+digits(u)+`\u`+strings.ToUpper(digits(u))+`"`, text(want+want))
	}
	for c := 0x10000; c <= 0x10ffff; c += 0x3f {
		pair := `\u` + digits(0xd800+(c-0x10000)>>10) + `\u` + strings.ToUpper(digits(0xdc00+c&0x3ff))
		wantValue(t, `"`+pair+`"`, text(string(rune(c))))
	}
}

func TestFieldsOfOneName(t *testing.T) { // P3.1: where the first stands, with the value of the last
	a := func(v api.Value) api.Field { return field("a", v) }
	for s, want := range map[string]api.Value{
		`{"a":1,"a":2}`:                            object(a(number("2"))),
		`{"a":1,"b":2,"a":3}`:                      object(a(number("3")), field("b", number("2"))),
		`{"b":1,"a":2,"a":3,"b":4,"a":5}`:          object(field("b", number("4")), a(number("5"))),
		`{"a":1,"\u0061":2,"c":3}`:                 object(a(number("2")), field("c", number("3"))),
		`{"\u0061":[1],"a":null}`:                  object(a(api.Value{})),
		`{"a":null,"a":[{"a":1,"a":2}]}`:           object(a(list(object(a(number("2")))))),
		`{"a":{"a":1},"a":{"b":1}}`:                object(a(object(field("b", number("1"))))),
		`{"a":{"b":1},"b":{"a":1}}`:                object(a(object(field("b", number("1")))), field("b", object(a(number("1"))))),
		`[{"a":1},{"a":2}]`:                        list(object(a(number("1"))), object(a(number("2")))),
		`{"A":1,"a":2}`:                            object(field("A", number("1")), a(number("2"))),
		`{"":1,"":2}`:                              object(field("", number("2"))),
		`{"\ud800":1,"\udc00":2,"` + "\ufffd\":3}": object(field("\ufffd", number("3"))),
		`{"\u00e9":1,"e` + "\u0301" + `":2,"é":3}`: object(field("é", number("3")), field("e\u0301", number("2"))),
		`{"\/":1,"/":2,"\\/":3}`:                   object(field("/", number("2")), field(`\/`, number("3"))),
	} {
		wantValue(t, s, want)
	}
	wantError(t, `{"a":1,"a":x}`, api.ErrJSON, 11)
}

func TestWrongBytes(t *testing.T) { // P3.1
	for _, c := range []struct {
		s  string
		at int
	}{
		{"01", 1}, {"00", 1}, {"-01", 2}, {"1.", 2}, {"1.x", 2}, {"1.e5", 2}, {"1..2", 2}, {"1.2.3", 3}, {"-", 1}, {"--1", 1}, {"-x", 1}, {"- 1", 1}, {"-.5", 1},
		{"+1", 0}, {".5", 0}, {"1e", 2}, {"1e+", 3}, {"1e+-1", 3}, {"1e++1", 3}, {"1E-x", 3}, {"1e5e5", 3}, {"1e5.5", 3}, {"1e ", 2}, {"0x10", 1}, {"1a", 1},
		{"1 2", 2}, {"1-2", 1}, {"0e", 2},
		{"Infinity", 0}, {"NaN", 0}, {"-Infinity", 1}, {"\uff11", 0},
		{"tru", 3}, {"t", 1}, {"trux", 3}, {"tRue", 1}, {"True", 0}, {"truee", 4}, {"nulL", 3}, {"nul", 3}, {"nul]", 3}, {"nullx", 4}, {"NULL", 0}, {"fals", 4},
		{"falsy", 4}, {"f", 1}, {"false1", 5}, {"truefalse", 4}, {"n ull", 1},
		{`"\x"`, 2}, {`"\`, 2}, {`"\u`, 3}, {`"\u"`, 3}, {`"\u1`, 4}, {`"\u12g4"`, 5}, {`"\u12G4"`, 5}, {`"\u123"`, 6}, {`"\u123`, 6}, {`"\ug"`, 3},
		{`"\u 123"`, 3}, {`"\u+123"`, 3}, {`"\u-123"`, 3}, {`"\u12_4"`, 5}, {`"\u0x12"`, 4}, {`"\u{41}"`, 3},
		{`"\U0041"`, 2}, {`"\N"`, 2}, {`"\a"`, 2}, {`"\v"`, 2}, {`"\0"`, 2}, {`"\'"`, 2}, {"\"\\\n\"", 2}, {"\"\\é\"", 2}, {`"\ud83d\x"`, 8},
		{`"\ud83d\ude0g"`, 12}, {`"\ud83d\u"`, 9}, {`"\ud83d`, 7}, {`"\ud83d\`, 8},
		{"\"a\n\"", 2}, {"\"\n\"", 1}, {"\"\x00\"", 1}, {"\"\x1f\"", 1}, {"\"\t\"", 1}, {"\"\r\"", 1}, {`"a`, 2}, {`"`, 1}, {`"é`, 3}, {"'a'", 0}, {`"a"b`, 3}, {`"a""b"`, 3},
		{"", 0}, {" ", 1}, {" \n\t\r", 4}, {"[", 1}, {"[ ", 2}, {"[1", 2}, {"[1 ", 3}, {"[1,", 3}, {"[1, ", 4}, {"[[]", 3}, {"{", 1}, {"{ ", 2}, {`{"a"`, 4},
		{`{"a" `, 5}, {`{"a":`, 5}, {`{"a":1`, 6}, {`{"a":1,`, 7}, {`{"a":1, `, 8}, {`{"a`, 3}, {`{"a":[]`, 7},
		{"[1,]", 3}, {"[,]", 1}, {"[,1]", 1}, {"[1,,2]", 3}, {"[1 2]", 3}, {"[1:2]", 2}, {"[}", 1}, {"[1}", 2}, {"]", 0}, {"}", 0}, {",", 0}, {":", 0},
		{"[]]", 2}, {"[],", 2}, {"[] []", 3}, {"[]1", 2}, {`["a":1]`, 4},
		{`{"a" 1}`, 5}, {`{"a",1}`, 4}, {`{"a"}`, 4}, {`{"a":}`, 5}, {`{"a":,}`, 5}, {`{"a"::1}`, 5}, {`{"a":1,}`, 7}, {`{"a":1 "b":2}`, 7}, {`{"a":1:2}`, 6},
		{`{,}`, 1}, {"{1:2}", 1}, {"{a:1}", 1}, {"{null:1}", 1}, {"{[]:1}", 1}, {"{{}:1}", 1}, {`{"a":1]`, 6}, {"{]", 1}, {"{}}", 2}, {`{"a":1,,"b":2}`, 7},
		{`{"a":1,2}`, 7}, {`{"a":1}{`, 7},
		{"\v1", 0}, {"\f1", 0}, {"1\v", 1}, {"\x001", 0}, {"1\x00", 1}, {"\u00a01", 0}, {"1\u2028", 1}, {"\ufeff1", 0}, {"1\u0085", 1}, {"/**/1", 0},
		{"1//", 1}, {"[1#", 2}, {"1;", 1}, {"(1)", 0},
	} {
		wantError(t, c.s, api.ErrJSON, c.at)
	}
}

func TestInvalidBytes(t *testing.T) { // P3.1
	for _, c := range []struct {
		s  string
		at int
	}{
		{"\xff", 0}, {"\"\xff\"", 1}, {"\"a\x80\"", 2}, {"1\xff", 1}, {" \xff", 1}, {"[\xc3\xa9", 1}, {"{\xff", 1}, {"tr\xff", 2}, {"\"\\\xff\"", 2},
		{"\"\\u00\xff\"", 5}, {"\"a\"\xff", 3}, {"{\"a\xff\":1}", 3},
		{"\"\xc3\"", 1}, {"\"\xc3", 1}, {"\"\xe2\x82", 1}, {"\"\xe2\x82\"", 1}, {"\"é\xe2\x82é\"", 3}, {"\"\xf0\x9f\x98\"", 1}, {"\"\xf0\x9f\x98", 1}, // the character's first byte, not where it breaks off
		{"\"\xc0\x80\"", 1}, {"\"\xe0\x9f\xbf\"", 1}, {"\"\xf0\x8f\xbf\xbf\"", 1}, {"\"\xed\xa0\x80\"", 1}, {"\"\xed\xbf\xbf\"", 1},
		{"\"\xf4\x90\x80\x80\"", 1}, {"\"\xf5\x80\x80\x80\"", 1}, {"\"é\x80\"", 3},
		{"\"\n\xff\"", 1}, {"x\xff", 0}, // what is wrong before it comes first
	} {
		wantError(t, c.s, api.ErrJSON, c.at)
	}
}

// TestAgainstReference holds Parse against the machine and the library's tokens: P3.1 and P3.3.
func TestAgainstReference(t *testing.T) {
	eachSample(func(s string) {
		e, at := expected(s)
		want := api.Value{}
		if e == api.OK {
			want = valueOf(s)
		}
		if v, gotAt, got := Parse(s); got != e || gotAt != at || !same(v, want) {
			t.Fatalf("Parse(%q): %v, %d, %d, not %v, %d, %d", s, v, gotAt, got, want, at, e)
		}
	})
}

func TestFirstWrongByte(t *testing.T) { // P3.3
	eachSample(func(s string) {
		_, at, e := Parse(s)
		if e != api.ErrJSON {
			return
		}
		if _, end, before := Parse(s[:at]); before != api.OK && (before != api.ErrJSON || end != at) {
			t.Fatalf("%q is wrong at %d, but up to there alone: %d at %d", s, at, before, end)
		}
	})
}

// parts are JSON texts, cut wherever whitespace may stand.
func parts() [][]string {
	return [][]string{
		{"null"}, {"-0.5e+3"}, {`" \u00e9"`}, {"[", "]"}, {"{", "}"}, {"[", "1", "]"}, {"[", "true", ",", "[", "]", ",", `"a b"`, "]"},
		{"{", `"a"`, ":", "1", "}"}, {"{", `"a"`, ":", "[", "false", "]", ",", `"b"`, ":", "{", "}", ",", `"a"`, ":", "0", "}"},
	}
}

func TestWhitespaceInEachPlace(t *testing.T) { // P3.1, P3.4
	for _, p := range parts() {
		want := valueOf(strings.Join(p, ""))
		for _, blank := range []string{"", " ", "\t", "\n", "\r", "\r\n \t  "} {
			wantValue(t, blank+strings.Join(p, blank)+blank, want)
			for i := range len(p) + 1 {
				wantValue(t, strings.Join(p[:i], "")+blank+strings.Join(p[i:], ""), want)
			}
		}
		for _, odd := range []string{"\v", "\f", "\x00", "\x1f", "\x7f", "\u00a0", "\u0085", "\u2028", "\u3000", "\ufeff", "\xa0", "\x85"} {
			for i := range len(p) + 1 {
				before := strings.Join(p[:i], " ")
				wantError(t, before+odd+strings.Join(p[i:], ""), api.ErrJSON, len(before))
			}
		}
	}
}

func TestContext(t *testing.T) { // P3.4
	eachSample(func(s string) {
		v, _, e := Parse(s)
		if e != api.OK {
			return
		}
		wantValue(t, "\r\n"+s+" \t", v)
		wantValue(t, "["+s+"]", list(v))
		wantValue(t, "[0,"+s+", {}]", list(number("0"), v, object()))
		wantValue(t, `{"a":`+s+`}`, object(field("a", v)))
		wantValue(t, `{"a":[],"b" : `+s+`,"a":1}`, object(field("a", number("1")), field("b", v)))
		if t.Failed() {
			t.FailNow()
		}
	})
}

func TestDepth(t *testing.T) { // P3.1, P3.5
	for n := range api.MaxNest + 1 {
		want, fields := number("0"), number("0")
		for range n {
			want, fields = list(want), object(field("a", fields))
		}
		wantValue(t, nested("[", "0", "]", n), want)
		wantValue(t, nested(`{"a":`, "0", "}", n), fields)
	}
	for n := api.MaxNest + 1; n < api.MaxNest+4; n++ {
		wantError(t, nested("[", "", "]", n), api.ErrDeep, 64)
		wantError(t, nested("[", "", "", n), api.ErrDeep, 64)
		wantError(t, nested(" [", "", "]", n), api.ErrDeep, 129)
		wantError(t, nested("[1,", "", "]", n), api.ErrDeep, 192)
		wantError(t, nested(`{"a":`, "0", "}", n), api.ErrDeep, 320)
		wantError(t, nested(`[{"a":`, "0", "}]", n), api.ErrDeep, 192)
	}
	wantError(t, nested("[", "{}", "]", 64), api.ErrDeep, 64)
	wantError(t, nested(`{"a":`, "[]", "}", 64), api.ErrDeep, 320)
	wantError(t, nested("[", `[],"`, "]", 64), api.ErrDeep, 64)
}

func TestDepthIsOfWhatIsOpen(t *testing.T) { // P3.1, P3.5
	for _, inner := range []string{"[]", "{}", `[{}]`, `{"a":[]}`} {
		many := strings.Repeat(inner+",", 100) + inner
		if v, at, e := Parse("[" + many + "]"); e != api.OK || len(v.List) != 101 {
			t.Errorf("101 of %s: %d at %d", inner, e, at)
		}
	}
	wantError(t, nested("[", "[],[", "]", 62), api.ErrJSON, 62+4+62) // one is still open
	for s, at := range map[string]int{
		nested("[", "1[", "]", 64): 65, nested("[", `"a"{`, "]", 64): 67, nested(`{"a":`, "1,[", "}", 64): 322, // no list or object may begin there
		nested("[", "x", "]", 64): 64, nested("[", "", "", 64): 64, nested("[", "", "]", 64) + "[": 128,
		"x" + nested("[", "", "]", 65): 0, nested("[", "]]", "", 2) + nested("[", "", "]", 65): 4,
	} {
		wantError(t, s, api.ErrJSON, at)
	}
	wantValue(t, `"`+strings.Repeat(`[{`, 100)+`"`, text(strings.Repeat(`[{`, 100)))
	wantError(t, nested("[", `"[[[[",[`, "]", 64), api.ErrDeep, 71)
}

func TestLong(t *testing.T) { // P3.1
	const most = api.MaxJSON
	letters := strings.Repeat("a", most-2)
	wantValue(t, `"`+letters+`"`, text(letters))
	wantValue(t, strings.Repeat(" ", most-1)+"1", number("1"))
	wantValue(t, "1"+strings.Repeat(" ", most-1), number("1"))
	wantValue(t, strings.Repeat("1", most), number(strings.Repeat("1", most)))
	wantError(t, `"`+letters+"a", api.ErrJSON, most)
	wantError(t, `"`+letters+"\xff", api.ErrJSON, most-1)
	wantError(t, strings.Repeat(" ", most), api.ErrJSON, most)
	wantError(t, strings.Repeat("[", most), api.ErrDeep, 64)
	for _, s := range []string{`"` + letters + `a"`, `"` + letters + `" `, " 1 " + letters, strings.Repeat(" ", most+1), strings.Repeat("\xff", most+1), strings.Repeat("[", most+1), "x" + letters + letters} {
		wantError(t, s, api.ErrLong, 0)
	}
}

// TestMany has as many elements and fields as a long text can have.
func TestMany(t *testing.T) { // P3.1
	const many = api.MaxJSON/2 - 1
	v, _, e := Parse("[" + strings.Repeat("0,", many-1) + "0]")
	if e != api.OK || len(v.List) != many {
		t.Errorf("%d elements: %d, %d", many, e, len(v.List))
	}
	var s strings.Builder
	for i := range 20000 {
		s.WriteString(`"` + strconv.Itoa(i) + `":` + strconv.Itoa(i) + ",")
	}
	v, _, e = Parse("{" + s.String() + `"7":[]}`)
	if e != api.OK || len(v.Fields) != 20000 {
		t.Fatalf("20000 fields: %d, %d", e, len(v.Fields))
	}
	for i, f := range v.Fields {
		want := number(strconv.Itoa(i))
		if i == 7 {
			want = list()
		}
		if f.Name != strconv.Itoa(i) || !same(f.V, want) {
			t.Fatalf("field %d: %v", i, f)
		}
	}
}

func TestGet(t *testing.T) { // P3.2
	twice := object(field("b", number("0")), field("a", number("1")), field("a", text("2")))
	for _, c := range []struct {
		v    api.Value
		name string
		want api.Value
		ok   bool
	}{
		{valueOf(`{"a":1,"b":[2,{"c":3}]}`), "a", number("1"), true},
		{valueOf(`{"a":1,"b":[2,{"c":3}]}`), "b", valueOf(`[2,{"c":3}]`), true},
		{valueOf(`{"a":1,"b":[2,{"c":3}]}`), "c", api.Value{}, false}, // of a field's field
		{valueOf(`{"a":1}`), "", api.Value{}, false}, {valueOf(`{"a":1}`), "A", api.Value{}, false}, {valueOf(`{"a":1}`), "aa", api.Value{}, false},
		{valueOf(`{"ab":1}`), "a", api.Value{}, false},
		{valueOf(`{"":1}`), "", number("1"), true}, {valueOf(`{"a":null}`), "a", api.Value{}, true}, {object(), "a", api.Value{}, false},
		{twice, "a", number("1"), true}, {twice, "b", number("0"), true},
		{object(field("\xff", number("1"))), "\xff", number("1"), true}, {object(field("\xff", number("1"))), "\ufffd", api.Value{}, false},
		{api.Value{}, "a", api.Value{}, false}, {text("a"), "a", api.Value{}, false}, {number("1"), "1", api.Value{}, false},
		{list(object(field("a", number("1")))), "a", api.Value{}, false},
	} {
		if got, ok := Get(c.v, c.name); !same(got, c.want) || ok != c.ok {
			t.Errorf("Get(%v, %q): %v, %v, not %v, %v", c.v, c.name, got, ok, c.want, c.ok)
		}
	}
}

func TestGetOfOddValues(t *testing.T) { // P3.2, P0.1
	for kind := range 256 {
		v := api.Value{Kind: uint8(kind), Text: "a", List: []api.Value{number("1")}, Fields: []api.Field{field("a", text("b"))}}
		got, ok := Get(v, "a")
		if kind == int(api.JObject) != ok || ok && !same(got, text("b")) || !ok && !same(got, api.Value{}) {
			t.Errorf("of the kind %d: %v, %v", kind, got, ok)
		}
		if got, ok := Get(object(field("x", v)), "x"); !ok || !same(got, v) {
			t.Errorf("a field's value %v: %v, %v", v, got, ok)
		}
	}
	deep := number("1")
	for range 1 << 14 {
		deep = list(object(field("a", deep)))
	}
	if got, ok := Get(object(field("x", deep)), "x"); !ok || !same(got, deep) {
		t.Error("a deep value is another one")
	}
}

// wantApart asks that no two slices of the values share memory, up to their capacities.
func wantApart(t *testing.T, values ...api.Value) {
	t.Helper()
	seen := map[any]int{}
	for _, v := range values {
		countElements(v, seen)
	}
	for _, n := range seen {
		if n > 1 {
			t.Fatal("memory is shared")
		}
	}
}

func countElements(v api.Value, seen map[any]int) {
	l, fields := v.List[:cap(v.List)], v.Fields[:cap(v.Fields)]
	for i := range l {
		seen[&l[i]]++
		countElements(l[i], seen)
	}
	for i := range fields {
		seen[&fields[i]]++
		countElements(fields[i].V, seen)
	}
}

func TestGetSharesNoMemory(t *testing.T) { // P3.2, P0.4
	const s = `{"a":[[1,2],{"b":[3],"c":{"d":[{}]}}],"e":[4]}`
	v, _, _ := Parse(s)
	for range 2 {
		got, _ := Get(v, "a")
		wantApart(t, v, got)
		overwrite(got)
		if !same(v, valueOf(s)) {
			t.Fatalf("what Get returned was overwritten, and the value became %v", v)
		}
	}
	got, _ := Get(v, "e")
	overwrite(v)
	if !same(got, list(number("4"))) {
		t.Errorf("the value was overwritten, and what Get had returned became %v", got)
	}
}

// overwrite sets all elements of a value's slices to something else, the innermost first.
func overwrite(v api.Value) {
	for i, x := range v.List {
		overwrite(x)
		v.List[i] = text("gone")
	}
	for i, f := range v.Fields {
		overwrite(f.V)
		v.Fields[i] = field("gone", text("gone"))
	}
}

func TestParseMakesNewMemory(t *testing.T) { // P0.4
	const s = `{"a":[[1,2,3],[],[4,5,6],{"b":[7],"c":{},"b":[8]}],"d":[9],"a":[[],[1,[2,3,[4]]],{"e":[5,6]}]}`
	first, _, _ := Parse(s)
	second, _, _ := Parse(s)
	wantApart(t, first, second)
	overwrite(first)
	if third, _, _ := Parse(s); !same(second, third) {
		t.Errorf("what Parse returned was overwritten, and it now returns %v", third)
	}
}
