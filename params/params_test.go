package params

import (
	"math"
	"reflect"
	"slices"
	"strings"
	"testing"
	"unsafe"

	"glossator/api"
	"glossator/json"
	"glossator/jsontext"
)

// read is what the call of a method answers.
func read(call string, v api.Value) (a answer) {
	switch call {
	case toOpen:
		a.uri, a.version, a.text, a.e = Open(v)
	case toChange:
		a.uri, a.version, a.changes, a.e = Change(v)
	case toClose:
		a.uri, a.e = Close(v)
	case toCancel:
		a.id, a.e = Cancel(v)
	case toInit:
		a.e = Init(v)
	default:
		a.ask, a.e = Ask(call, v)
	}
	return a
}

// same reports whether two answers are equal; nil and empty lists are, but beside an error all is zero.
func same(a, b answer) bool {
	if a.e != api.OK {
		return reflect.DeepEqual(a, answer{e: b.e})
	}
	return a.uri == b.uri && a.version == b.version && a.text == b.text && slices.Equal(a.changes, b.changes) && alike(a.id, b.id) && a.e == b.e &&
		a.ask.Kind == b.ask.Kind && a.ask.URI == b.ask.URI && a.ask.Previous == b.ask.Previous && slices.Equal(a.ask.Spots, b.ask.Spots)
}

func wantAnswer(t *testing.T, call string, v api.Value, want answer) {
	t.Helper()
	if a := read(call, v); !same(a, want) {
		t.Errorf("%s of %.600v:\n%.300v, not\n%.300v", call, v, a, want)
	}
}

// wantReference asks each call what the reference says.
func wantReference(t *testing.T, v api.Value) {
	t.Helper()
	for _, call := range calls() {
		wantAnswer(t, call, v, expected(call, v))
	}
}

func parsed(t *testing.T, s string) api.Value {
	t.Helper()
	v, at, e := json.Parse(s)
	if e != api.OK {
		t.Fatalf("%s: no JSON: %d at %d", s, e, at)
	}
	return v
}

func TestKind(t *testing.T) { // P7.1
	for i, m := range questions {
		if Kind(m) != uint8(i+1) {
			t.Errorf("Kind(%s): %d", m, Kind(m))
		}
		others := []string{m + " ", m + "x", m + "/", m + "\x00", " " + m, strings.ToUpper(m), strings.ToLower(m), strings.ReplaceAll(m, "/", "."), m + m}
		for j := range m {
			others = append(others, m[:j], m[j+1:], m[:j]+"x"+m[j+1:], m[:j]+"\xff"+m[j:])
		}
		for _, other := range others {
			if Kind(other) != questionOf(other) {
				t.Errorf("Kind(%q): %d", other, Kind(other))
			}
		}
	}
	for _, m := range []string{"", "x", toOpen, toChange, toClose, toCancel, toInit, "textDocument/semanticTokens", "textDocument/semanticTokens/full/delta/", "textDocument/semanticTokens/range", "textDocument/hover", "shutdown"} {
		if Kind(m) != 0 {
			t.Errorf("Kind(%q): %d", m, Kind(m))
		}
	}
}

func TestExamples(t *testing.T) { // P7.2, P7.3
	for _, c := range []struct {
		call, s string
		want    answer
	}{
		{toOpen, `{"textDocument":{"uri":"u","languageId":"x","version":3,"text":"a"}}`, answer{uri: "u", version: 3, text: "a"}},
		{toOpen, `{"textDocument":{"text":"","version":-9223372036854775808,"uri":""}}`, answer{version: math.MinInt}},
		{toOpen, `{"x":1,"textDocument":{"text":"é\n","version":9223372036854775807,"uri":"é"}}`, answer{uri: "é", version: math.MaxInt, text: "é\n"}},
		{toOpen, `{"textDocument":{"text":"a","version":-0,"uri":"u"}}`, answer{uri: "u", text: "a"}},
		{toOpen, `{"textDocument":{"uri":1,"version":3,"text":"a","uri":"v","version":4}}`, answer{uri: "v", version: 4, text: "a"}},
		{toChange, `{"textDocument":{"uri":"u","version":4},"contentChanges":[{"text":"b"},{"range":{"start":{"line":0,"character":1},"end":{"line":2,"character":0}},"text":""}]}`,
			answer{uri: "u", version: 4, changes: []api.Change{{Text: "b"}, {Ranged: true, Range: api.Range{Start: api.Pos{Char: 1}, End: api.Pos{Line: 2}}}}}},
		{toChange, `{"textDocument":{"uri":"u","version":4},"contentChanges":[]}`, answer{uri: "u", version: 4}},
		{toChange, `{"textDocument":{"uri":"u","version":4},"contentChanges":[{"range":null,"text":"x","rangeLength":5}]}`, answer{uri: "u", version: 4, changes: []api.Change{{Text: "x"}}}},
		{toChange, `{"contentChanges":[{"text":"x","range":{"end":{"line":0,"character":2147483647},"start":{"character":5,"line":2147483647}}}],"textDocument":{"version":-4,"uri":"u"}}`,
			answer{uri: "u", version: -4, changes: []api.Change{{Ranged: true, Range: api.Range{Start: api.Pos{Line: math.MaxInt32, Char: 5}, End: api.Pos{Char: math.MaxInt32}}, Text: "x"}}}},
		{toClose, `{"textDocument":{"uri":"u"}}`, answer{uri: "u"}},
		{toClose, `{"textDocument":{"version":"x","uri":""},"contentChanges":1}`, answer{}},
		{toCancel, `{"id":7}`, answer{id: number("7")}},
		{toCancel, `{"x":1,"id":"a"}`, answer{id: text("a")}},
		{toCancel, `{"id":null}`, answer{}},
		{toCancel, `{"id":{"id":[1.5]}}`, answer{id: with(named("id", values(number("1.5"))))}},
		{toInit, `{}`, answer{}},
		{toInit, `{"capabilities":{"x":[]}}`, answer{}},
		{questions[0], `{"textDocument":{"uri":"u"}}`, answer{ask: api.Ask{Kind: api.QFull, URI: "u"}}},
		{questions[0], `{"textDocument":{"uri":"u"},"previousResultId":"7","positions":[{"line":1,"character":2}]}`, answer{ask: api.Ask{Kind: api.QFull, URI: "u"}}},
		{questions[1], `{"textDocument":{"uri":"u"},"previousResultId":"7"}`, answer{ask: api.Ask{Kind: api.QDelta, URI: "u", Previous: "7"}}},
		{questions[1], `{"textDocument":{"uri":"u"},"previousResultId":"","positions":[{"line":1,"character":2}]}`, answer{ask: api.Ask{Kind: api.QDelta, URI: "u"}}},
		{questions[2], `{"textDocument":{"uri":"u"},"previousResultId":7,"positions":{}}`, answer{ask: api.Ask{Kind: api.QFolds, URI: "u"}}},
		{questions[3], `{"textDocument":{"uri":"u"},"positions":[]}`, answer{ask: api.Ask{Kind: api.QChains, URI: "u"}}},
		{questions[3], `{"textDocument":{"uri":"u"},"previousResultId":"7","positions":[{"line":1,"character":2},{"character":0,"line":2147483647},{"line":1,"character":2}]}`,
			answer{ask: api.Ask{Kind: api.QChains, URI: "u", Spots: []api.Pos{{Line: 1, Char: 2}, {Line: math.MaxInt32}, {Line: 1, Char: 2}}}}},
		{"x", `{"textDocument":{"uri":"u"}}`, answer{e: api.ErrArg}},
		{"", `{}`, answer{e: api.ErrArg}},
	} {
		wantAnswer(t, c.call, parsed(t, c.s), c.want)
		wantAnswer(t, c.call, parsed(t, c.s), expected(c.call, parsed(t, c.s)))
	}
}

func TestWrong(t *testing.T) { // P7.2, P7.3
	document := `"textDocument":{"uri":"u","version":4,"text":"a"}`
	for call, l := range map[string][]string{
		toOpen: {`{}`, `[]`, `[{` + document + `}]`, `{"uri":"u","version":4,"text":"a"}`, `{"TextDocument":{"uri":"u","version":4,"text":"a"}}`, `{"textDocument":null}`, `{"textDocument":[]}`, `{"textDocument":"u"}`, `{"textDocument":{"version":4,"text":"a"}}`,
			`{"textDocument":{"uri":1,"version":4,"text":"a"}}`, `{"textDocument":{"uri":null,"version":4,"text":"a"}}`, `{"textDocument":{"URI":"u","version":4,"text":"a"}}`,
			`{"textDocument":{"uri":"u","text":"a"}}`, `{"textDocument":{"uri":"u","version":"4","text":"a"}}`, `{"textDocument":{"uri":"u","version":1.5,"text":"a"}}`, `{"textDocument":{"uri":"u","version":1e0,"text":"a"}}`, `{"textDocument":{"uri":"u","version":null,"text":"a"}}`,
			`{"textDocument":{"uri":"u","version":9223372036854775808,"text":"a"}}`, `{"textDocument":{"uri":"u","version":-9223372036854775809,"text":"a"}}`,
			`{"textDocument":{"uri":"u","version":4}}`, `{"textDocument":{"uri":"u","version":4,"text":1}}`, `{"textDocument":{"uri":"u","version":4,"text":null}}`, `{"textDocument":{"uri":"u","version":4,"text":["a"]}}`, `{"textDocument":{"uri":"u","version":4},"text":"a"}`},
		toChange: {`{}`, `{"contentChanges":[]}`, `{` + document + `}`, `{"textDocument":{"uri":"u"},"contentChanges":[]}`, `{"textDocument":{"uri":"u","version":"4"},"contentChanges":[]}`, `{"textDocument":{"uri":"u","version":null},"contentChanges":[]}`, `{"textDocument":{"version":4},"contentChanges":[]}`,
			`{` + document + `,"contentChanges":{}}`, `{` + document + `,"contentChanges":null}`, `{` + document + `,"contentChanges":{"text":"a"}}`, `{` + document + `,"contentChanges":"a"}`, `{` + document + `,"contentChanges":[[]]}`, `{` + document + `,"contentChanges":["a"]}`, `{` + document + `,"contentChanges":[{"text":"a"},null]}`,
			`{` + document + `,"contentChanges":[{}]}`, `{` + document + `,"contentChanges":[{"text":1}]}`, `{` + document + `,"contentChanges":[{"text":null},{"text":"a"}]}`,
			`{` + document + `,"contentChanges":[{"text":"a","range":1}]}`, `{` + document + `,"contentChanges":[{"text":"a","range":false}]}`, `{` + document + `,"contentChanges":[{"text":"a","range":[]}]}`, `{` + document + `,"contentChanges":[{"text":"a","range":{}}]}`, `{` + document + `,"contentChanges":[{"text":"a","range":"null"}]}`,
			`{` + document + `,"contentChanges":[{"text":"a","range":{"start":{"line":0,"character":1}}}]}`, `{` + document + `,"contentChanges":[{"text":"a","range":{"end":{"line":0,"character":1}}}]}`, `{` + document + `,"contentChanges":[{"text":"a","range":{"start":{"line":0,"character":1},"end":null}}]}`,
			`{` + document + `,"contentChanges":[{"range":{"start":{"line":0,"character":1},"end":{"line":0,"character":1}}}]}`},
		toClose:      {`{}`, `null`, `[]`, `{"textDocument":{}}`, `{"textDocument":{"uri":7}}`, `{"textDocument":[{"uri":"u"}]}`, `{"uri":"u"}`},
		toCancel:     {`{}`, `[]`, `null`, `{"ID":1}`, `{"x":{"id":1}}`, `[{"id":1}]`, `"id"`},
		toInit:       {`[]`, `null`, `1`, `"x"`, `true`, `false`, `[{}]`},
		questions[0]: {`{}`, `[]`, `null`, `{"textDocument":{}}`, `{"textDocument":{"uri":7}}`, `{"uri":"u"}`},
		questions[1]: {`{}`, `{"previousResultId":"7"}`, `{"textDocument":{},"previousResultId":"7"}`, `{` + document + `}`, `{` + document + `,"previousResultId":7}`, `{` + document + `,"previousResultId":null}`, `{` + document + `,"previousResultID":"7"}`, `{"textDocument":{"uri":"u","previousResultId":"7"}}`},
		questions[2]: {`{}`, `[]`, `null`, `{"textDocument":{}}`, `{"textDocument":{"uri":null}}`, `{"positions":[]}`},
		questions[3]: {`{}`, `{"positions":[]}`, `{"textDocument":{},"positions":[]}`, `{` + document + `}`, `{` + document + `,"positions":{}}`, `{` + document + `,"positions":null}`, `{` + document + `,"positions":{"line":1,"character":2}}`, `{` + document + `,"positions":[[]]}`, `{` + document + `,"positions":[{"line":1,"character":2},{}]}`, `{` + document + `,"positions":[null]}`},
	} {
		for _, s := range l {
			wantAnswer(t, call, parsed(t, s), answer{e: api.ErrParams})
			wantReference(t, parsed(t, s))
		}
	}
}

// TestCounts has each number of a position, in a range and among the positions of a question.
func TestCounts(t *testing.T) { // P7.2, P7.3
	right := map[string]int{"0": 0, "-0": 0, "1": 1, "2147483646": math.MaxInt32 - 1, "2147483647": math.MaxInt32}
	for s, n := range right {
		wantSpot(t, spot(s, "5"), api.Pos{Line: n, Char: 5})
		wantSpot(t, spot("5", s), api.Pos{Line: 5, Char: n})
	}
	for _, s := range []string{"-1", "2147483648", "4294967296", "9223372036854775807", "9223372036854775808", "-9223372036854775808", "18446744073709551616", "1.5", "1.0", "1e0", "1E0", "0e1", "01", "+1", " 1", "", "x"} {
		wantNoSpot(t, spot(s, "5"))
		wantNoSpot(t, spot("5", s))
	}
	for _, v := range some() {
		line, char := named("line", number("5")), named("character", number("5"))
		wantNoSpot(t, with(char))
		wantNoSpot(t, with(line))
		if v.Kind != api.JNumber {
			wantNoSpot(t, with(named("line", v), char))
			wantNoSpot(t, with(line, named("character", v)))
		}
	}
}

func wantSpot(t *testing.T, v api.Value, p api.Pos) {
	t.Helper()
	for _, l := range placed(v) {
		c, q := answer{uri: "u", version: 3, changes: []api.Change{{Ranged: true, Text: "x"}}}, answer{ask: api.Ask{Kind: api.QChains, URI: "u", Spots: []api.Pos{p}}}
		c.changes[0].Range = api.Range{Start: p, End: api.Pos{Line: 7, Char: 7}}
		if inside(l, "second").Kind == api.JTrue {
			c.changes[0].Range = api.Range{Start: api.Pos{Line: 7, Char: 7}, End: p}
		}
		wantAnswer(t, toChange, l, c)
		wantAnswer(t, questions[3], l, q)
	}
}

func wantNoSpot(t *testing.T, v api.Value) {
	t.Helper()
	for _, l := range placed(v) {
		wantAnswer(t, toChange, l, answer{e: api.ErrParams})
		wantAnswer(t, questions[3], l, answer{e: api.ErrParams})
	}
}

// placed are parameters in which v is the only position of a question, and the start or the end of the only change's range.
func placed(v api.Value) (l []api.Value) {
	other := spot("7", "7")
	for _, pair := range [][2]api.Value{{v, other}, {other, v}} {
		change := with(named("range", with(named("start", pair[0]), named("end", pair[1]))), named("text", text("x")))
		p := with(named("textDocument", with(named("uri", text("u")), named("version", number("3")))), named("contentChanges", values(change)), named("positions", values(v)))
		if len(l) == 1 {
			p.Fields = append(p.Fields, named("second", api.Value{Kind: api.JTrue}))
		}
		l = append(l, p)
	}
	return l
}

// TestRanges has ranges of every Kind, and ones whose end lies before their start.
func TestRanges(t *testing.T) { // P7.2
	back := with(named("start", spot("9", "9")), named("end", spot("8", "10")))
	for _, c := range []struct {
		fields []api.Field
		want   api.Change
	}{
		{nil, api.Change{}},
		{[]api.Field{named("range", api.Value{})}, api.Change{}},
		{[]api.Field{named("range", api.Value{Text: "x", List: []api.Value{{}}, Fields: back.Fields})}, api.Change{}},
		{[]api.Field{named("Range", back)}, api.Change{}},
		{[]api.Field{named("range", api.Value{}), named("range", back)}, api.Change{}},
		{[]api.Field{named("range", back), named("range", number("1"))}, api.Change{Ranged: true, Range: api.Range{Start: api.Pos{Line: 9, Char: 9}, End: api.Pos{Line: 8, Char: 10}}}},
		{[]api.Field{named("range", with(named("start", spot("0", "0")), named("end", spot("0", "0"))))}, api.Change{Ranged: true}},
	} {
		for _, s := range []string{"", "x", "\xff", strings.Repeat("long", 1<<16)} {
			c.want.Text = s
			v := with(named("textDocument", with(named("uri", text("u")), named("version", number("3")))), named("contentChanges", values(with(append(c.fields, named("text", text(s)))...))))
			wantAnswer(t, toChange, v, answer{uri: "u", version: 3, changes: []api.Change{c.want}})
		}
	}
	for kind := range 256 {
		r := back
		if r.Kind = uint8(kind); kind == int(api.JNull) || kind == int(api.JObject) {
			continue
		}
		wantAnswer(t, toChange, with(named("textDocument", with(named("uri", text("u")), named("version", number("3")))), named("contentChanges", values(with(named("range", r), named("text", text("x")))))), answer{e: api.ErrParams})
	}
}

// TestKinds has values of every Kind with all that parameters need.
func TestKinds(t *testing.T) { // P7.2, P7.3, P0.1
	for kind := range 256 {
		v := full()
		v.Kind, v.Text, v.List = uint8(kind), "{}", []api.Value{full()}
		for _, call := range calls() {
			if kind != int(api.JObject) {
				wantAnswer(t, call, v, answer{e: api.ErrParams})
			}
		}
		wantReference(t, v)
		wantAnswer(t, "x", v, answer{e: api.ErrArg})
		for _, x := range []api.Value{{Kind: uint8(kind)}, {Kind: uint8(kind), Text: "1", List: []api.Value{{}}, Fields: []api.Field{{}}}} {
			wantAnswer(t, toCancel, with(named("id", x)), answer{id: x})
			wantReference(t, with(named("id", x)))
		}
	}
}

func TestLimits(t *testing.T) { // P7.2, P7.3, P0.2
	long := strings.Repeat("x", 256)
	for _, uri := range []string{"", "u", long[1:], long, strings.Repeat("é", 128), "\xff", strings.Repeat("\xff", 256), "a\x00b"} {
		for _, n := range []int{0, 1, 63, 64} {
			v := many(uri, n, n)
			wantAnswer(t, toOpen, v, answer{uri: uri, version: 3, text: "a"})
			wantAnswer(t, toClose, v, answer{uri: uri})
			wantAnswer(t, toChange, v, answer{uri: uri, version: 3, changes: slices.Repeat([]api.Change{{Text: "b"}}, n)})
			wantAnswer(t, questions[0], v, answer{ask: api.Ask{Kind: api.QFull, URI: uri}})
			wantAnswer(t, questions[1], v, answer{ask: api.Ask{Kind: api.QDelta, URI: uri, Previous: "7"}})
			wantAnswer(t, questions[2], v, answer{ask: api.Ask{Kind: api.QFolds, URI: uri}})
			wantAnswer(t, questions[3], v, answer{ask: api.Ask{Kind: api.QChains, URI: uri, Spots: slices.Repeat([]api.Pos{{Line: 1, Char: 2}}, n)}})
			wantReference(t, v)
		}
		for _, n := range []int{65, 66, 128, 1000} {
			wantAnswer(t, toChange, many(uri, n, 0), answer{e: api.ErrFull})
			wantAnswer(t, questions[3], many(uri, 0, n), answer{e: api.ErrFull})
			wantReference(t, many(uri, n, n))
		}
	}
	for _, uri := range []string{long + "x", strings.Repeat("é", 128) + "x", strings.Repeat("\xff", 257), strings.Repeat("x", 1<<20)} {
		for _, call := range calls() {
			if call != toCancel && call != toInit {
				wantAnswer(t, call, many(uri, 1, 1), answer{e: api.ErrLong})
				wantAnswer(t, call, many(uri, 65, 65), answer{e: api.ErrLong})
			}
		}
		wantReference(t, many(uri, 64, 64))
	}
}

// TestOrderOfErrors has several errors at once.
func TestOrderOfErrors(t *testing.T) { // P7.2, P7.3, P0.2
	long := strings.Repeat("x", 257)
	wrong := many(long, 65, 65)
	wrong.Fields[1].V.List[64] = with()
	wrong.Fields[2].V.List[64] = with()
	wantAnswer(t, toChange, wrong, answer{e: api.ErrParams})
	wantAnswer(t, questions[3], wrong, answer{e: api.ErrParams})
	wrong = many("u", 65, 65)
	wrong.Fields[1].V.List[64] = with()
	wrong.Fields[2].V.List[64] = with()
	wantAnswer(t, toChange, wrong, answer{e: api.ErrParams})
	wantAnswer(t, questions[3], wrong, answer{e: api.ErrParams})
	for _, v := range []api.Value{{}, with(), values(), many("u", 65, 65), many(long, 1, 1), wrong} {
		for _, method := range []string{"", "x", toOpen, toChange, "textDocument/selectionrange"} {
			if a, e := Ask(method, v); !reflect.DeepEqual(a, api.Ask{}) || e != api.ErrArg {
				t.Errorf("Ask(%q): %v, %d", method, a, e)
			}
		}
	}
	for _, name := range []string{"version", "text"} {
		v := many(long, 65, 65)
		for i, f := range v.Fields[0].V.Fields {
			if f.Name == name {
				v.Fields[0].V.Fields[i].V = api.Value{}
			}
		}
		wantAnswer(t, toOpen, v, answer{e: api.ErrParams})
		wantReference(t, v)
	}
	for i, name := range []string{"textDocument", "contentChanges", "positions", "previousResultId"} {
		v := many(long, 65, 65)
		v.Fields[i] = named(name, api.Value{Kind: api.JTrue})
		wantReference(t, v)
	}
}

// TestReadChanged asks the reference about parameters with one place changed, or two.
func TestReadChanged(t *testing.T) { // P7.2, P7.3
	for _, v := range variants(full(), some()) {
		if wantReference(t, v); t.Failed() {
			return
		}
	}
	others := []api.Value{{}, number("8"), text("y")}
	for _, one := range variants(full(), others) {
		for _, v := range variants(one, others) {
			if wantReference(t, v); t.Failed() {
				return
			}
		}
	}
}

func TestMade(t *testing.T) { // P7.4
	place := api.Range{Start: api.Pos{Line: 1, Char: -2}, End: api.Pos{Line: math.MaxInt, Char: math.MinInt}}
	changes := []api.Change{{Text: "b"}, {Ranged: true, Range: place, Text: "\xffé\n"}, {Range: place, Text: "c"}}
	spots := []api.Pos{{Line: 1, Char: 2}, {Line: -1, Char: math.MaxInt}}
	for _, c := range []struct {
		v    api.Value
		want string
	}{
		{Opened("u", 3, "a"), `{"textDocument":{"uri":"u","languageId":"minilang","version":3,"text":"a"}}`},
		{Opened("", 0, ""), `{"textDocument":{"uri":"","languageId":"minilang","version":0,"text":""}}`},
		{Opened("\xff", math.MinInt, "é\xe2\x82"), `{"textDocument":{"uri":"` + "\ufffd" + `","languageId":"minilang","version":-9223372036854775808,"text":"é` + "\ufffd\ufffd" + `"}}`},
		{Changed("u", -4, nil), `{"textDocument":{"uri":"u","version":-4},"contentChanges":[]}`},
		{Changed("u\xff", math.MaxInt, changes), `{"textDocument":{"uri":"u` + "\ufffd" + `","version":9223372036854775807},"contentChanges":[{"text":"b"},` +
			`{"range":{"start":{"line":1,"character":-2},"end":{"line":9223372036854775807,"character":-9223372036854775808}},"text":"` + "\ufffd" + `é\n"},{"text":"c"}]}`},
		{Closed("u"), `{"textDocument":{"uri":"u"}}`},
		{Closed("\xffu\xc3"), `{"textDocument":{"uri":"` + "\ufffdu\ufffd" + `"}}`},
		{Asked(api.Ask{Kind: api.QFull, URI: "u", Previous: "7", Spots: spots}), `{"textDocument":{"uri":"u"}}`},
		{Asked(api.Ask{Kind: api.QDelta, URI: "u", Previous: "7\xff", Spots: spots}), `{"textDocument":{"uri":"u"},"previousResultId":"7` + "\ufffd" + `"}`},
		{Asked(api.Ask{Kind: api.QFolds, URI: "u", Previous: "7", Spots: spots}), `{"textDocument":{"uri":"u"}}`},
		{Asked(api.Ask{Kind: api.QChains, URI: "u\xff", Previous: "7", Spots: spots}), `{"textDocument":{"uri":"u` + "\ufffd" + `"},"positions":[{"line":1,"character":2},{"line":-1,"character":9223372036854775807}]}`},
		{Asked(api.Ask{Kind: api.QChains}), `{"textDocument":{"uri":""},"positions":[]}`},
		{Asked(api.Ask{}), `{"textDocument":{"uri":""}}`},
		{Cancelled(number("1")), `{"id":1}`},
		{Cancelled(api.Value{}), `{"id":null}`},
		{Cancelled(with(named("id", values(text("x"))))), `{"id":{"id":["x"]}}`},
	} {
		if s, e := jsontext.Print(c.v); s != c.want || e != api.OK {
			t.Errorf("%s, %d, not %s", s, e, c.want)
		}
	}
}

func wantMade(t *testing.T, v api.Value, fields ...api.Field) {
	t.Helper()
	if !alike(v, with(fields...)) {
		t.Errorf("%.300v, not %.300v", v, fields)
	}
}

// TestMadeOfAnything has all strings, numbers, Kinds and lengths with each other.
func TestMadeOfAnything(t *testing.T) { // P7.4
	for _, s := range madeStrings() {
		for _, n := range []int{math.MinInt, -1, 0, 1, math.MaxInt32, math.MaxInt32 + 1, math.MaxInt} {
			version := named("version", number(integer(jsontext.Number(n)).String()))
			wantMade(t, Opened(s, n, s+"x"), madeDocument(s, named("languageId", text("minilang")), version, named("text", text(valid(s)+"x"))))
			for _, count := range []int{0, 1, 2, 64, 65, 300} {
				changes, spots := madeLists(count, n, s)
				wantMade(t, Changed(s, n, changes), madeDocument(s, version), named("contentChanges", madeChanges(changes)))
				wantAsked(t, api.Ask{URI: s, Previous: s + "y", Spots: spots})
			}
		}
		wantMade(t, Closed(s), madeDocument(s))
	}
}

// wantAsked asks what is made of a question, of each Kind.
func wantAsked(t *testing.T, a api.Ask) {
	t.Helper()
	for _, a.Kind = range []uint8{0, 1, 2, 3, 4, 5, 6, 128, 255} {
		switch a.Kind {
		case 2:
			wantMade(t, Asked(a), madeDocument(a.URI), named("previousResultId", text(valid(a.Previous))))
		case 4:
			wantMade(t, Asked(a), madeDocument(a.URI), named("positions", madeSpots(a.Spots)))
		default:
			wantMade(t, Asked(a), madeDocument(a.URI))
		}
	}
}

func TestCancelled(t *testing.T) { // P7.4, P7.5
	for kind := range 256 {
		for _, id := range []api.Value{{Kind: uint8(kind)}, {Kind: uint8(kind), Text: "\xff", List: []api.Value{number("01"), {Kind: 9}}, Fields: []api.Field{named("a", values()), named("a", text("\xff"))}}} {
			wantMade(t, Cancelled(id), named("id", id))
			wantAnswer(t, toCancel, Cancelled(id), answer{id: id})
		}
	}
	for _, id := range some() {
		wantMade(t, Cancelled(id), named("id", id))
	}
}

func madeStrings() []string {
	return []string{"", "u", "é\n\"\x00", "\U0001F600", strings.Repeat("x", 256), strings.Repeat("x", 257), "\xff", "a\xe2\x82b", "\xed\xa0\x80"}
}

// madeLists are so many changes and positions, of numbers about n.
func madeLists(count, n int, s string) (changes []api.Change, spots []api.Pos) {
	for i := range count {
		p := api.Pos{Line: n - i, Char: i}
		changes = append(changes, api.Change{Ranged: i%2 == 1, Range: api.Range{Start: p, End: api.Pos{Line: i, Char: n}}, Text: s + "z"})
		spots = append(spots, p)
	}
	return changes, spots
}

func TestRoundTrip(t *testing.T) { // P7.5
	for _, s := range []string{"", "u", "é\n\"\x00", "\U0001F600\ufffd", strings.Repeat("x", 256)} {
		for _, n := range []int{64, 1000, math.MaxInt32} {
			for _, count := range []int{0, 1, 2, 63, 64} {
				changes, spots := madeLists(count, n, s)
				for i := range changes {
					if !changes[i].Ranged {
						changes[i].Range = api.Range{}
					}
				}
				for _, version := range []int{math.MinInt, -1, 0, 7, math.MaxInt} {
					wantAnswer(t, toOpen, again(t, Opened(s, version, s+"x")), answer{uri: s, version: version, text: s + "x"})
					wantAnswer(t, toChange, again(t, Changed(s, version, changes)), answer{uri: s, version: version, changes: changes})
				}
				for _, a := range []api.Ask{{Kind: 1, URI: s}, {Kind: 2, URI: s, Previous: s + "y"}, {Kind: 3, URI: s}, {Kind: 4, URI: s, Spots: spots}} {
					wantAnswer(t, questions[a.Kind-1], again(t, Asked(a)), answer{ask: a})
				}
				wantAnswer(t, toClose, again(t, Closed(s)), answer{uri: s})
			}
		}
	}
	for _, id := range []api.Value{{}, number("-7"), text("a"), values(number("1")), with(named("id", text("b")))} {
		wantAnswer(t, toCancel, again(t, Cancelled(id)), answer{id: id})
	}
}

// again is v, printed and parsed.
func again(t *testing.T, v api.Value) api.Value {
	t.Helper()
	s, e := jsontext.Print(v)
	if e != api.OK {
		t.Fatalf("%.200v: not printed, %d", v, e)
	}
	return parsed(t, s)
}

func TestOtherFields(t *testing.T) { // P7.6
	l := append(variants(full(), few()), many("u", 64, 64), many("u", 65, 65), many(strings.Repeat("x", 257), 1, 1))
	for _, more := range [][]api.Field{{named("x", api.Value{})}, {named("", full()), named("URI", number("1"))}, {named("uri ", text("w")), named("\xff", values()), named("x", api.Value{Kind: 9}), named("x", number("2"))}} {
		for _, v := range l {
			for _, call := range calls() {
				want := read(call, v)
				want.id = extended(want.id, more...)
				wantAnswer(t, call, extended(v, more...), want)
			}
			if t.Failed() {
				return
			}
		}
	}
}

func TestDeepAndLong(t *testing.T) { // P0.1
	deep := number("1")
	for range 1 << 14 {
		deep = values(with(named("a", deep)))
	}
	long := strings.Repeat("a\xff", 1<<18)
	v := extended(many("u", 64, 64), named("x", deep), named("y", text(long)))
	wantReference(t, v)
	wantReference(t, deep)
	wantAnswer(t, toCancel, with(named("id", deep)), answer{id: deep})
	wantAnswer(t, toOpen, with(named("textDocument", with(named("uri", text("u")), named("version", number("3")), named("text", text(long))))), answer{uri: "u", version: 3, text: long})
	wantAnswer(t, toClose, with(named("textDocument", with(named("uri", deep)))), answer{e: api.ErrParams})
	wantMade(t, Cancelled(deep), named("id", deep))
	wantMade(t, Opened(long, 1, long), madeDocument(long, named("languageId", text("minilang")), named("version", number("1")), named("text", text(valid(long)))))
}

// memory is where the elements and the bytes of values stand, up to the capacities.
type memory map[any]int

func (m memory) add(v api.Value) {
	l, fields := v.List[:cap(v.List)], v.Fields[:cap(v.Fields)]
	m.addText(v.Text)
	for i := range l {
		m[&l[i]]++
		m.add(l[i])
	}
	for i := range fields {
		m[&fields[i]]++
		m.add(fields[i].V)
	}
}

func (m memory) addText(s string) {
	if len(s) > 1 { // a string of one byte may stand in a table that all such strings share
		m[unsafe.StringData(s)]++
	}
}

func (m memory) addAnswer(a answer) {
	changes, spots := a.changes[:cap(a.changes)], a.ask.Spots[:cap(a.ask.Spots)]
	for i := range changes {
		m[&changes[i]]++
		m.addText(changes[i].Text)
	}
	for i := range spots {
		m[&spots[i]]++
	}
	for _, s := range []string{a.uri, a.text, a.ask.URI, a.ask.Previous} {
		m.addText(s)
	}
	m.add(a.id)
}

// wantApart asks that a result shares no memory with itself or with the arguments, which may share it with each other.
func wantApart(t *testing.T, result, arguments memory) {
	t.Helper()
	for place, n := range result {
		if n > 1 || arguments[place] > 0 {
			t.Fatal("memory is shared")
		}
	}
}

// TestReadSharesNoMemory has strings that stand in several places, and slices with unused capacity.
func TestReadSharesNoMemory(t *testing.T) { // P7.2, P7.3, P0.4
	s, p := strings.Repeat("s", 9), spot("11", "12")
	change := with(named("range", with(named("start", p), named("end", p))), named("text", text(s)))
	v := with(
		named("textDocument", with(named("uri", text(s)), named("version", number("33")), named("text", text(s)))),
		named("contentChanges", values(append(make([]api.Value, 0, 8), change, change)...)),
		named("positions", values(append(make([]api.Value, 0, 8), p, p)...)),
		named("previousResultId", text(s)),
		named("id", values(append(make([]api.Value, 0, 8), text(s), text(s), change)...)))
	before, handed := filled(v), memory{}
	handed.add(v)
	for _, call := range calls() {
		held, a := memory{}, read(call, v)
		held.addAnswer(a)
		if a.e != api.OK || !same(a, expected(call, before)) {
			t.Fatalf("%s: %v", call, a)
		}
		wantApart(t, held, handed)
	}
	if !alike(v, before) {
		t.Errorf("the value became %v", v)
	}
}

func TestMadeSharesNoMemory(t *testing.T) { // P7.4, P0.4
	for _, s := range []string{strings.Repeat("s", 9), "a\xffb"} {
		changes := append(make([]api.Change, 0, 8), api.Change{Ranged: true, Text: s}, api.Change{Text: s})
		spots := append(make([]api.Pos, 0, 8), api.Pos{Line: 11, Char: 12}, api.Pos{Line: 13, Char: 14})
		id := values(append(make([]api.Value, 0, 8), text(s), text(s), with(named(s, text(s))))...)
		handed := memory{}
		handed.addAnswer(answer{uri: s, changes: changes, ask: api.Ask{Spots: spots}, id: id})
		for _, v := range []api.Value{Opened(s, 1234, s), Changed(s, 1234, changes), Closed(s), Asked(api.Ask{Kind: 2, URI: s, Previous: s}), Asked(api.Ask{Kind: 4, URI: s, Spots: spots}), Cancelled(id)} {
			held := memory{}
			held.add(v)
			wantApart(t, held, handed)
		}
	}
}

// TestCapacityStays asks that the memory between a slice's length and its capacity is not changed.
func TestCapacityStays(t *testing.T) { // P0.4
	fields, list := append(full().Fields, named("kept", text("kept"))), []api.Value{{}, text("kept")}
	last := len(fields) - 1
	fields[last-1].V = api.Value{Kind: api.JList, List: list[:1]}
	v := with(fields[:last]...)
	changes, spots := []api.Change{{Text: "a"}, {Text: "kept"}}, []api.Pos{{Line: 1}, {Line: 99}}
	for range 2 {
		for _, call := range append(calls(), "x") {
			read(call, v)
		}
		Changed("u", 1, changes[:1])
		Asked(api.Ask{Kind: api.QChains, Spots: spots[:1]})
		Cancelled(v)
		Cancelled(api.Value{List: list[:1], Fields: fields[:1]})
	}
	if !alike(fields[last].V, text("kept")) || fields[last].Name != "kept" || !alike(list[1], text("kept")) || changes[1].Text != "kept" || spots[1].Line != 99 {
		t.Errorf("what lies behind became %v, %v, %v, %v", fields, list, changes, spots)
	}
}
