package jsontext

import (
	lib "encoding/json"
	"math"
	"math/big"
	"strconv"
	"strings"
	"testing"

	"glossator/api"
	"glossator/json"
	"glossator/utf"
)

// wantWritten asks that a value is valid and written so.
func wantWritten(t *testing.T, v api.Value, want string) {
	t.Helper()
	if !May(v) {
		t.Errorf("May(%.80v): false", v)
	}
	if s, e := Print(v); s != want || e != api.OK {
		t.Errorf("Print(%.80v): %.80q, %d, not %.80q", v, s, e, want)
	}
}

// wantInvalid asks that a value is not valid, nor are those that contain it.
func wantInvalid(t *testing.T, v api.Value) {
	t.Helper()
	for _, x := range []api.Value{v, list(v), list(number("1"), v, list()), object(field("a", v)), object(field("a", text("x")), field("b", list(v)))} {
		if May(x) {
			t.Errorf("May(%.80v): true", x)
		}
		if s, e := Print(x); s != "" || e != api.ErrValue {
			t.Errorf("Print(%.80v): %.80q, %d, not an error", x, s, e)
		}
	}
}

// wantLong asks that a value is valid, but too long to be written.
func wantLong(t *testing.T, v api.Value) {
	t.Helper()
	if !May(v) {
		t.Errorf("May(%.80v): false", v)
	}
	if s, e := Print(v); s != "" || e != api.ErrLong {
		t.Errorf("Print(%.80v): %d bytes, %d, not ErrLong", v, len(s), e)
	}
}

func TestWritten(t *testing.T) { // P4.1
	null, yes, no := api.Value{}, api.Value{Kind: api.JTrue}, api.Value{Kind: api.JFalse}
	for _, c := range []struct {
		v    api.Value
		want string
	}{
		{null, "null"}, {no, "false"}, {yes, "true"}, {number("0"), "0"}, {number("-0.50e+07"), "-0.50e+07"}, {number("1E5"), "1E5"},
		{text(""), `""`}, {text("a b"), `"a b"`}, {text("null"), `"null"`}, {text("\"\\/"), `"\"\\/"`}, {text("\b\t\n\f\r"), `"\b\t\n\f\r"`},
		{text("\x00\x01\x0b\x0e\x1f\x20"), `"\u0000\u0001\u000b\u000e\u001f "`}, {text("\x7f<>&'\u2028\u2029"), "\"\x7f<>&'\u2028\u2029\""},
		{text("é€\U0001F600\ufffd\ufeff\U0010ffff"), "\"é€\U0001F600\ufffd\ufeff\U0010ffff\""},
		{list(), "[]"}, {list(null), "[null]"}, {list(yes, no), "[true,false]"}, {list(number("1"), text("1"), list(), object()), `[1,"1",[],{}]`},
		{object(), "{}"}, {object(field("", null)), `{"":null}`}, {object(field("b", number("1")), field("a", number("2"))), `{"b":1,"a":2}`},
		{object(field("\"\n\x02é", list(object(field("a", object()))))), `{"\"\n\u0002é":[{"a":{}}]}`},
		{object(field("a", object(field("a", yes))), field("A", list(object(field("a", no))))), `{"a":{"a":true},"A":[{"a":false}]}`},
		{object(field("a", list(number("1"), null)), field("é", text("\"\n\x01\x7f"))), "{\"a\":[1,null],\"é\":\"\\\"\\n\\u0001\x7f\"}"},
		{object(field("é", null), field("e\u0301", null)), "{\"é\":null,\"e\u0301\":null}"},
		{api.Value{Kind: api.JText, Text: "x", List: []api.Value{}, Fields: []api.Field{}}, `"x"`},
		{api.Value{Kind: api.JList, List: []api.Value{}, Fields: []api.Field{}}, "[]"},
	} {
		wantWritten(t, c.v, c.want)
	}
}

func TestAgainstReference(t *testing.T) { // P4.1
	for _, v := range samples() {
		if !mayBe(v) {
			wantInvalid(t, v)
			continue
		}
		wantWritten(t, v, written(v))
	}
}

// TestFieldsOfEachKind has every Kind, those that there are not too, with each of the fields set or not.
func TestFieldsOfEachKind(t *testing.T) { // P4.1
	lists := [][]api.Value{nil, {}, {{}}, {number("1"), text("")}}
	fields := [][]api.Field{nil, {}, {{}}, {field("a", number("1")), field("b", list())}}
	for kind := range 256 {
		for _, s := range []string{"", "1", "x", "-0.5e3", "null", "\xff"} {
			for _, l := range lists {
				for _, f := range fields {
					v := api.Value{Kind: uint8(kind), Text: s, List: l, Fields: f}
					if mayBe(v) {
						wantWritten(t, v, written(v))
						continue
					}
					wantInvalid(t, v)
				}
			}
		}
	}
}

func TestNumbersOfTheGrammar(t *testing.T) { // P4.1, P4.4
	long := strings.Repeat("0123456789", 30)
	for _, s := range []string{"0", "-0", "7", "10", "-120", "0.0", "1.25", "-0.50", "0e0", "0E0", "1e5", "1E+05", "1e-00", "-0.5e+3", "9.99E-9", "1" + long, "0." + long, "1e" + long} {
		wantWritten(t, number(s), s)
	}
	for _, s := range []string{
		"", "-", "+1", "--1", "- 1", "01", "-01", "00", "-00", ".5", "-.5", "1.", "1.e5", "1..2", "1.2.3", "e5", "1e", "1e+", "1e+-1", "1e5.5", "1e5e5", "-e1", "1e 5",
		" 1", "1 ", "1\n", "\n1", "1\x00", "0x10", "1_000", "1,5", "Infinity", "-Infinity", "NaN", "1a", "a", "[1]", "1 2", "1-2", "1\xff", "\xff", "\uff11", "1\u0661", "²",
	} {
		wantInvalid(t, number(s))
	}
	many := 0
	eachText([]string{"-", "+", ".", "e", "E", "0", "1", "9", " ", "x"}, 5, func(s string) {
		_, e := Print(number(s))
		if _, ok := Int(number(s)); May(number(s)) != numbers.MatchString(s) || (e == api.OK) != numbers.MatchString(s) || ok && !numbers.MatchString(s) {
			t.Fatalf("the number %q: %v, %d", s, May(number(s)), e)
		}
		many++
	})
	if many != 111111 {
		t.Errorf("%d numbers", many)
	}
}

func TestInvalidBytes(t *testing.T) { // P4.1
	for _, s := range []string{
		"\xff", "a\x80", "\xc3", "é\xc3", "\xc3a", "\xe2\x82", "\xe2\x82a", "\xf0\x9f\x98", "\xc0\x80", "\xe0\x9f\xbf", "\xf0\x8f\xbf\xbf",
		"\xed\xa0\x80", "\xed\xbf\xbf", "\xf4\x90\x80\x80", "\xf5\x80\x80\x80", "é\x80", "\n\xff", "\xfea",
	} {
		wantInvalid(t, text(s))
		wantInvalid(t, object(field(s, api.Value{})))
		wantInvalid(t, object(field("a", api.Value{}), field(s, api.Value{})))
	}
}

func TestFieldsOfOneName(t *testing.T) { // P4.1
	var fields []api.Field
	for i := range 1000 {
		fields = append(fields, field(strconv.Itoa(i), api.Value{}))
	}
	if !May(object(fields...)) {
		t.Error("1000 fields of different names are not valid")
	}
	for _, i := range []int{0, 1, 500, 999} {
		wantInvalid(t, object(append(fields[:len(fields):len(fields)], field(strconv.Itoa(i), number("1")))...))
	}
	for _, name := range []string{"", "a", "\n", "é", "\U0001F600", "\ufffd"} {
		wantInvalid(t, object(field(name, api.Value{}), field(name, api.Value{})))
		wantInvalid(t, object(field(name, number("1")), field("b", api.Value{}), field(name, number("2"))))
		wantInvalid(t, object(field("x", object(field("b", api.Value{}), field(name, number("1")), field(name, list())))))
	}
}

func TestDepth(t *testing.T) { // P4.1
	for _, kinds := range [][]uint8{{api.JList}, {api.JObject}, {api.JList, api.JObject}, {api.JObject, api.JList}} {
		for _, inner := range append(atoms(), list(list()), object(field("a", object()))) {
			for n := 60; n <= api.MaxNest; n++ {
				v := nested(inner, n, kinds...)
				if n+depthOf(inner) <= api.MaxNest {
					wantWritten(t, v, written(v))
				} else if May(v) {
					t.Errorf("May of %d lists and objects: true", n+depthOf(inner))
				}
			}
			for _, n := range []int{65, 66, 100, 1 << 14} {
				wantInvalid(t, nested(inner, n, kinds...))
			}
		}
	}
	deepest := nested(number("1"), api.MaxNest-1, api.JList)
	wantWritten(t, list(deepest, deepest), "["+written(deepest)+","+written(deepest)+"]") // what is closed does not count
	wantInvalid(t, list(number("1"), deepest, list(deepest)))
	endless := []api.Value{{}, {Kind: api.JList}}
	endless[1].List = endless
	if s, e := Print(endless[1]); May(endless[1]) || s != "" || e != api.ErrValue {
		t.Errorf("a list that contains itself: %d", e)
	}
}

// growing are values that have s somewhere, written as it is.
func growing(s string) []api.Value {
	return []api.Value{
		text(s), text("\x01\"" + s + "é"), number("1" + s), number("-0.5" + s), number("1e+0" + s),
		list(text(s)), list(list(), text(s), list()), list(text(""), number("2"+s)), list(list(list(text("\n"), text(s)))),
		object(field("a", text(s))), object(field("x"+s, api.Value{})), object(field("a", list()), field("\n"+s, text(""))),
		object(field("a", object(field("é", number("3"+s)))), field("b", api.Value{Kind: api.JFalse})),
	}
}

func TestLong(t *testing.T) { // P4.1
	const most = api.MaxJSON
	for i, v := range growing("") {
		room := most - len(written(v))
		for _, n := range []int{room - 1, room} {
			fits := growing(strings.Repeat("1", n))[i]
			wantWritten(t, fits, written(fits))
		}
		for _, n := range []int{room + 1, room + 2, room + 100, most, 4 * most} {
			wantLong(t, growing(strings.Repeat("1", n))[i])
		}
	}
	letters := strings.Repeat("a", most-2)
	wantWritten(t, text(letters), `"`+letters+`"`)
	wantLong(t, text(letters+"a"))
	escapes := strings.Repeat("\x1f", (most-4)/6)
	wantWritten(t, text(escapes+"ab"), `"`+strings.Repeat(`\u001f`, (most-4)/6)+`ab"`)
	wantLong(t, text(escapes+"abc"))
	wantLong(t, text(escapes+"\n"+"a"))
	for _, long := range []string{letters + "aaa", strings.Repeat("1", most+1)} { // what is wrong comes first
		wantInvalid(t, list(text(long), number("01")))
		wantInvalid(t, list(text(long+"\xff")))
		wantInvalid(t, number(long+"x"))
		wantInvalid(t, object(field("b", text(long)), field("b", text(""))))
	}
}

func TestManyElements(t *testing.T) { // P4.1
	const most = api.MaxJSON
	zeros := make([]api.Value, most/2)
	for i := range zeros {
		zeros[i] = number("0")
	}
	many := list(zeros[1:]...)
	wantWritten(t, many, "["+strings.Repeat("0,", most/2-2)+"0]")
	zeros[1] = number("10")
	wantWritten(t, many, "[10"+strings.Repeat(",0", most/2-2)+"]")
	zeros[1] = number("100")
	wantLong(t, many)
	zeros[1] = number("0")
	wantLong(t, list(zeros...))
	wantLong(t, list(list(zeros...), list(zeros...), object(field("a", list(zeros...)))))
	zeros[most/2-1] = number("00")
	wantInvalid(t, list(list(zeros...), list(zeros...)))
	var fields []api.Field
	var items []string
	for i := range 30000 {
		n := strconv.Itoa(i)
		fields = append(fields, field(n, number(n)))
		items = append(items, `"`+n+`":`+n)
	}
	wantWritten(t, object(fields[:20000]...), "{"+strings.Join(items[:20000], ",")+"}")
	wantLong(t, object(fields...))
	wantInvalid(t, object(append(fields, field("29999", api.Value{}))...))
}

func TestQuote(t *testing.T) { // P4.2
	for s, want := range map[string]string{
		"": `""`, "a": `"a"`, `a\b` + "\xff": "\"a\\\\b\ufffd\"", `"`: `"\""`, `/`: `"/"`, "\u2028": "\"\u2028\"", "\xc3": "\"\ufffd\"",
		"\xe2\x82": "\"\ufffd\ufffd\"", "\xed\xa0\x80": "\"\ufffd\ufffd\ufffd\"", "\xf0\x9f\x98a": "\"\ufffd\ufffd\ufffda\"", "\xff\xff\"": "\"\ufffd\ufffd\\\"\"",
	} {
		if got := Quote(s); got != want {
			t.Errorf("Quote(%q): %q, not %q", s, got, want)
		}
	}
}

func TestQuoteOfEachCharacter(t *testing.T) { // P4.2
	want := map[rune]string{'"': `\"`, '\\': `\\`, 8: `\b`, 9: `\t`, 10: `\n`, 12: `\f`, 13: `\r`}
	for c := rune(0); c <= 0x10ffff; c++ {
		if c >= 0xd800 && c <= 0xdfff {
			continue
		}
		inside, ok := want[c]
		if !ok && c < 0x20 {
			inside = `\u00` + strconv.FormatInt(0x100+int64(c), 16)[1:]
		} else if !ok {
			inside = string(c)
		}
		if got := Quote(string(c)); got != `"`+inside+`"` {
			t.Fatalf("Quote of the character %x: %q, not %q", c, got, inside)
		}
	}
	for b := 0x80; b <= 0xff; b++ {
		if got := Quote("a" + string([]byte{byte(b)}) + "b"); got != "\"a\ufffdb\"" {
			t.Errorf("Quote of the byte %x: %q", b, got)
		}
	}
}

// pieces are characters of each length, those that are escaped, and bytes that are invalid alone or together.
func pieces() []string {
	return []string{"a", `"`, `\`, "\n", "\x00", "\x1f", " ", "\x7f", "é", "€", "\U0001F600", "\ufffd", "u", "\xff", "\xc3", "\xa9", "\xe2\x82", "\xf0\x9f"}
}

func TestQuoteAgainstReference(t *testing.T) { // P4.2, P4.5, P4.8
	eachText(pieces(), 4, func(s string) {
		got := Quote(s)
		v := Text(s)
		told, e := Print(v)
		if got != quoted(s) || told != got || e != api.OK || !alike(v, text(strings.ToValidUTF8(v.Text, ""))) || quoted(v.Text) != got {
			t.Fatalf("%q: quoted %q, not %q; as a text %v, written %q, %d", s, got, quoted(s), v, told, e)
		}
	})
}

func TestQuoteOfLongStrings(t *testing.T) { // P4.2
	for _, n := range []int{api.MaxJSON - 2, api.MaxJSON, api.MaxJSON + 1, 8 * api.MaxJSON} {
		for s, want := range map[string]string{"a": "a", "\n": `\n`, "\x01": `\u0001`, "é": "é", "\xff": "\ufffd"} {
			if got := Quote(strings.Repeat(s, n)); got != `"`+strings.Repeat(want, n)+`"` {
				t.Errorf("Quote of %d %q: %d bytes", n, s, len(got))
			}
		}
	}
}

func TestSame(t *testing.T) { // P4.3
	all := samples()
	var few []api.Value // every pair of all of them is too many
	for i, v := range all {
		if i < 300 || i%17 == 0 {
			few = append(few, v)
		}
	}
	for i, a := range few {
		again := filled(a) // no list of it is nil
		if !Same(a, a) || !Same(a, again) || !Same(again, a) {
			t.Errorf("%v is not the same as itself", a)
		}
		for j, b := range few {
			if Same(a, b) != (i == j) {
				t.Errorf("Same(%v, %v): %v", a, b, i != j)
			}
		}
	}
}

// TestSameInOnePlace has values that differ in one place only, whatever their Kind allows.
func TestSameInOnePlace(t *testing.T) { // P4.3
	full := func() api.Value {
		return api.Value{Kind: 9, Text: "x", List: []api.Value{number("1"), text("2")}, Fields: []api.Field{field("a", list(list())), field("a", api.Value{})}}
	}
	others := map[string]func(v *api.Value){
		"kind":             func(v *api.Value) { v.Kind = 10 },
		"text":             func(v *api.Value) { v.Text = "X" },
		"no text":          func(v *api.Value) { v.Text = "" },
		"longer text":      func(v *api.Value) { v.Text = "x\x00" },
		"no list":          func(v *api.Value) { v.List = nil },
		"shorter list":     func(v *api.Value) { v.List = v.List[:1] },
		"later list":       func(v *api.Value) { v.List = v.List[1:] },
		"longer list":      func(v *api.Value) { v.List = append(v.List, api.Value{}) },
		"element's kind":   func(v *api.Value) { v.List[1].Kind = api.JNumber },
		"element's text":   func(v *api.Value) { v.List[0].Text = "1.0" },
		"elements' order":  func(v *api.Value) { v.List[0], v.List[1] = v.List[1], v.List[0] },
		"no fields":        func(v *api.Value) { v.Fields = nil },
		"shorter fields":   func(v *api.Value) { v.Fields = v.Fields[:1] },
		"longer fields":    func(v *api.Value) { v.Fields = append(v.Fields, api.Field{}) },
		"field's name":     func(v *api.Value) { v.Fields[1].Name = "b" },
		"field's kind":     func(v *api.Value) { v.Fields[1].V.Kind = api.JTrue },
		"fields' order":    func(v *api.Value) { v.Fields[0], v.Fields[1] = v.Fields[1], v.Fields[0] },
		"field's elements": func(v *api.Value) { v.Fields[0].V.List[0].List = []api.Value{{}} },
		"fields of a list": func(v *api.Value) { v.Fields[0].V.Fields = []api.Field{{}} },
	}
	around := map[string]func(v api.Value) api.Value{
		"itself": func(v api.Value) api.Value { return v },
		"lists":  func(v api.Value) api.Value { return nested(list(list(), v, v), 70, api.JList) },
		"fields": func(v api.Value) api.Value { return nested(object(field("b", v)), 70, api.JObject, api.JList) },
	}
	for name, change := range others {
		for where, wrap := range around {
			v, other := full(), full()
			change(&other)
			if Same(wrap(v), wrap(other)) || Same(wrap(other), wrap(v)) || !Same(wrap(v), wrap(full())) {
				t.Errorf("another %s in %s is told wrongly", name, where)
			}
		}
	}
	if Same(number("1"), text("1")) || Same(list(), object()) || Same(api.Value{}, api.Value{Kind: api.JFalse}) || Same(number("1"), number("1e0")) || Same(number("0"), number("-0")) {
		t.Error("values of two Kinds or two texts are the same")
	}
}

func TestSameOfDeepValues(t *testing.T) { // P4.3, P0.1
	a, b := number("1"), number("2")
	for range 1 << 15 {
		a, b = list(object(field("a", a))), list(object(field("a", b)))
	}
	if !Same(a, a) || Same(a, b) || Same(a, list(a)) {
		t.Error("deep values are told wrongly")
	}
}

func TestInt(t *testing.T) { // P4.4
	for s, want := range map[string]int{
		"0": 0, "-0": 0, "1": 1, "-1": -1, "7": 7, "10": 10, "-12": -12, "120": 120, "2147483648": 2147483648, "-2147483649": -2147483649,
		"9223372036854775807": math.MaxInt64, "-9223372036854775808": math.MinInt64, "9223372036854775806": math.MaxInt64 - 1,
	} {
		if n, ok := Int(number(s)); n != want || !ok {
			t.Errorf("Int of %s: %d, %v", s, n, ok)
		}
	}
	for _, s := range []string{
		"", "-", "--1", "+1", "+0", "01", "-01", "00", "-00", "000", "1.0", "1.", "0.0", "-0.0", "1e0", "1e2", "1E2", "-1e0", ".", "e", " 1", "1 ", "1\n", "- 1", "1_000", "0x1", "0b1", "x", "1x", "x1",
		"9223372036854775808", "-9223372036854775809", "10000000000000000000", "-10000000000000000000", "18446744073709551616", "99999999999999999999999", "1\x00", "\xff", "\uff11", "1\xff",
		strings.Repeat("1", api.MaxJSON+1), "-" + strings.Repeat("9", 400),
	} {
		if n, ok := Int(number(s)); n != 0 || ok {
			t.Errorf("Int of %.40q: %d, %v", s, n, ok)
		}
	}
	for kind := range 256 {
		for _, s := range []string{"1", "0", ""} {
			v := api.Value{Kind: uint8(kind), Text: s}
			if n, ok := Int(v); ok != (uint8(kind) == api.JNumber && s != "") || !ok && n != 0 {
				t.Errorf("Int of the Kind %d with %q: %d, %v", kind, s, n, ok)
			}
		}
	}
	if n, ok := Int(api.Value{Kind: api.JNumber, Text: "5", List: []api.Value{{}}}); n != 5 || !ok { // of a JNumber, all that is asked is its Text
		t.Errorf("Int of 5 with a list: %d, %v", n, ok)
	}
}

func TestIntOfShortNumbers(t *testing.T) { // P4.4
	eachText([]string{"-", "+", ".", "e", "0", "1", "9", "_", " "}, 5, func(s string) {
		want, _ := strconv.Atoi(s)
		fits := strconv.Itoa(want) == s || s == "-0"
		if !fits {
			want = 0
		}
		if n, ok := Int(number(s)); n != want || ok != fits {
			t.Fatalf("Int of %q: %d, %v", s, n, ok)
		}
	})
}

// ints are those at the ends of every width, and some others.
func ints() []int {
	l := []int{0, math.MaxInt, math.MinInt, math.MaxInt - 1, math.MinInt + 1, 123456789, -1000000}
	for i := range 63 {
		for _, n := range []int{1 << i, 1<<i - 1, 1<<i + 1} {
			l = append(l, n, -n)
		}
	}
	return l
}

func TestNumber(t *testing.T) { // P4.5, P4.8
	for _, n := range ints() {
		v := Number(n)
		if !alike(v, number(big.NewInt(int64(n)).String())) {
			t.Errorf("Number(%d): %v", n, v)
		}
		if back, ok := Int(v); back != n || !ok {
			t.Errorf("Int of Number(%d): %d, %v", n, back, ok)
		}
		wantWritten(t, v, v.Text)
	}
	for end, by := range map[int]int64{math.MaxInt: 1, math.MinInt: -1} { // one beyond the least and the greatest
		beyond := new(big.Int).Add(big.NewInt(int64(end)), big.NewInt(by)).String()
		if n, ok := Int(number(beyond)); n != 0 || ok {
			t.Errorf("Int of %s: %d, %v", beyond, n, ok)
		}
	}
	if v := Number(math.MinInt64); v.Text != "-9223372036854775808" {
		t.Errorf("the least int: %v", v)
	}
}

func TestText(t *testing.T) { // P4.5
	for s, want := range map[string]string{
		"": "", "a": "a", "\"\\\n\x00\x7f": "\"\\\n\x00\x7f", "é€\U0001F600\ufffd": "é€\U0001F600\ufffd", "\xff": "\ufffd", "a\xff\xfeb": "a\ufffd\ufffdb",
		"\xc3": "\ufffd", "\xe2\x82a": "\ufffd\ufffda", "\xed\xa0\x80": "\ufffd\ufffd\ufffd", "\xf4\x90\x80\x80": "\ufffd\ufffd\ufffd\ufffd", "\xc0\x80": "\ufffd\ufffd",
	} {
		if v := Text(s); !alike(v, text(want)) {
			t.Errorf("Text(%q): %q, %v", s, v.Text, v)
		}
	}
	eachText(pieces(), 3, func(s string) {
		if v := Text(s); !alike(v, text(utf.Fix(s))) || !May(v) {
			t.Fatalf("Text(%q): %v", s, v)
		}
	})
}

func TestRoundTripOfWritten(t *testing.T) { // P4.6
	values := samples()
	for n := range api.MaxNest {
		values = append(values, nested(text("\n"), n+1, api.JObject, api.JList))
	}
	for _, v := range values {
		s, e := Print(v)
		if e != api.OK {
			continue
		}
		back, at, e := json.Parse(s)
		if e != api.OK || at != 0 || !Same(back, v) || !alike(back, v) {
			t.Errorf("%v is written %q, and that parsed: %v, %d, %d", v, s, back, at, e)
		}
		if !lib.Valid([]byte(s)) {
			t.Errorf("%v is written %q, which is not JSON", v, s)
		}
	}
}

func TestRoundTripOfParsed(t *testing.T) { // P4.6
	texts := []string{
		` { "a" : [ 1 , -0.5e+3 , "" ] , "b" : null , "a" : true } `, `"\u00e9\uD83D\uDE00\ud800x\uDC00\/"`, `{"\ud800":1,"\udc00":2}`, `[[],{},[{}],"\u0000\u001f\u007f"]`,
		`{"\u0061":{"a":1,"\u0061":2},"\/":[false],"/":"\"\\\b\f\n\r\t"}`, "\r\n[0,-0,0.0,1E5,1e-00]\t", strings.Repeat("[", 64) + strings.Repeat("]", 64),
		`"` + strings.Repeat("a", api.MaxJSON-2) + `"`, "[" + strings.Repeat("0,", api.MaxJSON/2-2) + "0]", strings.Repeat("7", api.MaxJSON),
	}
	eachText([]string{"[", "]", "{", "}", ",", ":", " ", `"a"`, `"\u0061":`, `"\u000A\/\ud83d\ude00"`, "-1.50E+0", "null", "true", "false"}, 5, func(s string) { texts = append(texts, s) })
	parsed := 0
	for _, s := range texts {
		v, _, e := json.Parse(s)
		if e != api.OK {
			continue
		}
		parsed++
		again, e := Print(v)
		back, _, e2 := json.Parse(again)
		if !May(v) || e != api.OK || e2 != api.OK || !Same(v, back) || !alike(v, back) {
			t.Errorf("%.80q is written %.80q (%v, %d), and parsed again: %.80v, %d", s, again, May(v), e, back, e2)
		}
	}
	if parsed < 300 {
		t.Errorf("only %d texts were parsed", parsed)
	}
}

func TestCanonicalForm(t *testing.T) { // P4.7
	type form struct {
		v api.Value
		s string
	}
	var forms []form
	for i, v := range samples() {
		s, e := Print(v)
		if e == api.OK && (i < 200 || i%5 == 0) {
			forms = append(forms, form{v, s}, form{filled(v), s})
		}
	}
	for _, a := range forms {
		for _, b := range forms {
			if Same(a.v, b.v) != (a.s == b.s) {
				t.Fatalf("%v and %v are written %q and %q", a.v, b.v, a.s, b.s)
			}
		}
	}
}

// TestArgumentsStay has slices with memory behind their ends, and asks that nothing there or in them is changed.
func TestArgumentsStay(t *testing.T) { // P0.4
	l := []api.Value{number("1"), text("a\n"), list(number("2")), number("01"), text("behind")}
	fields := []api.Field{field("b", list(l[:2]...)), field("a", api.Value{}), field("a", text("behind"))}
	for _, v := range []api.Value{list(l[:3]...), list(l[:4]...), object(fields[:2]...), object(fields...)} {
		before, behind := filled(list(l...)), filled(object(fields...))
		May(v)
		Print(v)
		Same(v, filled(v))
		Int(v)
		if !alike(list(l...), before) || !alike(object(fields...), behind) {
			t.Errorf("%v was changed", v)
		}
	}
}
