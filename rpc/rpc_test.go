package rpc

import (
	"math"
	"reflect"
	"strconv"
	"strings"
	"testing"
	"unsafe"

	"glossator/api"
	"glossator/json"
	"glossator/jsontext"
)

func parsed(t *testing.T, s string) api.Value {
	t.Helper()
	v, at, e := json.Parse(s)
	if e != api.OK {
		t.Fatalf("%s: no JSON: %d at %d", s, e, at)
	}
	return v
}

// wantCall asks that v is a message, with that call.
func wantCall(t *testing.T, v api.Value, want api.Call) {
	t.Helper()
	if c, e := Read(v); !alikeCalls(c, want) || e != api.OK {
		t.Errorf("Read(%.200v): %.200v, %d, not %.200v", v, c, e, want)
	}
}

// wantNone asks that v is not a message.
func wantNone(t *testing.T, v api.Value) {
	t.Helper()
	if c, e := Read(v); !reflect.DeepEqual(c, api.Call{}) || e != api.ErrCall {
		t.Errorf("Read(%.200v): %.200v, %d, not an error", v, c, e)
	}
}

// wantSame asks that Read answers what the reference does.
func wantSame(t *testing.T, v api.Value) {
	t.Helper()
	if want, ok := callOf(v); ok {
		wantCall(t, v, want)
		return
	}
	wantNone(t, v)
}

func TestCodes(t *testing.T) {
	if codes := []int{ParseError, InvalidRequest, MethodNotFound, InvalidParams, NotInitialized, Cancelled}; !reflect.DeepEqual(codes, []int{-32700, -32600, -32601, -32602, -32002, -32800}) {
		t.Error(codes)
	}
}

func TestMayID(t *testing.T) { // P6.1
	for _, v := range validIDs() {
		if !MayID(v) {
			t.Errorf("MayID(%.300v): false", v)
		}
	}
	for _, v := range wrongIDs() {
		if MayID(v) {
			t.Errorf("MayID(%.300v): true", v)
		}
	}
}

// TestMayIDOfEachKind has every Kind, those that there are not too, with each of the fields set or not.
func TestMayIDOfEachKind(t *testing.T) { // P6.1
	for kind := range 256 {
		for _, s := range []string{"", "1", "x", "-0.5e3", "null", "\xff"} {
			for _, l := range [][]api.Value{nil, {}, {{}}, {number("1"), text("")}} {
				for _, f := range [][]api.Field{nil, {}, {{}}, {field("id", number("1"))}} {
					v := api.Value{Kind: uint8(kind), Text: s, List: l, Fields: f}
					if MayID(v) != mayBeID(v) {
						t.Errorf("MayID(%v): %v", v, MayID(v))
					}
				}
			}
		}
	}
}

func TestRead(t *testing.T) { // P6.1
	one, null := number("1"), api.Value{}
	params := object(field("a", list(number("2"), text("b"))))
	for _, c := range []struct {
		s    string
		want api.Call
	}{
		{`{"jsonrpc":"2.0","id":1,"method":"a","params":[2]}`, api.Call{Kind: api.CRequest, ID: one, Method: "a", Params: list(number("2"))}},
		{`{"jsonrpc":"2.0","id":"x","method":"a","params":{"a":[2,"b"]}}`, api.Call{Kind: api.CRequest, ID: text("x"), Method: "a", Params: params}},
		{`{"jsonrpc":"2.0","id":-7,"method":"a/b"}`, api.Call{Kind: api.CRequest, ID: number("-7"), Method: "a/b"}},
		{`{"params":null,"method":"","id":"","jsonrpc":"2.0"}`, api.Call{Kind: api.CRequest, ID: text("")}},
		{`{"jsonrpc":"2.0","id":1,"method":"a","result":1,"error":1}`, api.Call{Kind: api.CRequest, ID: one, Method: "a"}},
		{`{"method":"a","jsonrpc":"2.0","params":null,"x":1}`, api.Call{Kind: api.CNotice, Method: "a"}},
		{`{"jsonrpc":"2.0","method":"$/x","params":{"a":[2,"b"]}}`, api.Call{Kind: api.CNotice, Method: "$/x", Params: params}},
		{`{"jsonrpc":"2.0","method":"é\n","params":[],"ID":null}`, api.Call{Kind: api.CNotice, Method: "é\n", Params: list()}},
		{`{"jsonrpc":"2.0","id":null,"error":{}}`, api.Call{Kind: api.CReply, ID: null}},
		{`{"jsonrpc":"2.0","id":"x","result":null}`, api.Call{Kind: api.CReply, ID: text("x")}},
		{`{"result":[1],"id":1,"jsonrpc":"2.0"}`, api.Call{Kind: api.CReply, ID: one}},
		{`{"jsonrpc":"2.0","id":1,"error":{"code":1,"message":"m"},"params":3,"Method":1}`, api.Call{Kind: api.CReply, ID: one}},
		{`{"\u006asonrpc":"2\u002e0","id":null,"result":false}`, api.Call{Kind: api.CReply, ID: null}},
	} {
		wantCall(t, parsed(t, c.s), c.want)
		wantSame(t, parsed(t, c.s))
	}
}

func TestReadOfOthers(t *testing.T) { // P6.1
	for _, s := range []string{
		`{"id":1,"method":"a"}`, `{"jsonrpc":"1.0","id":1,"method":"a"}`, `{"jsonrpc":2.0,"id":1,"method":"a"}`, `{"jsonrpc":null,"method":"a"}`, `{"jsonrpc":["2.0"],"method":"a"}`,
		`{"jsonrpc":"","method":"a"}`, `{"jsonrpc":"2","method":"a"}`, `{"jsonrpc":"2.00","method":"a"}`, `{"jsonrpc":" 2.0","method":"a"}`, `{"JSONRPC":"2.0","method":"a"}`,
		`{"jsonrpc":"1.0","id":1,"result":1}`, `{"id":1,"error":{}}`,
		`{"jsonrpc":"2.0","id":1,"method":1}`, `{"jsonrpc":"2.0","method":null}`, `{"jsonrpc":"2.0","method":["a"]}`, `{"jsonrpc":"2.0","method":true}`, `{"jsonrpc":"2.0","id":1,"method":{},"result":1}`,
		`{"jsonrpc":"2.0","id":1,"method":"a","params":1}`, `{"jsonrpc":"2.0","method":"a","params":"x"}`, `{"jsonrpc":"2.0","method":"a","params":true}`, `{"jsonrpc":"2.0","method":"a","params":false}`,
		`{"jsonrpc":"2.0","id":null,"method":"a"}`, `{"jsonrpc":"2.0","id":1.5,"method":"a"}`, `{"jsonrpc":"2.0","id":1e2,"method":"a"}`, `{"jsonrpc":"2.0","id":[],"method":"a"}`,
		`{"jsonrpc":"2.0","id":9223372036854775808,"method":"a"}`, `{"jsonrpc":"2.0","id":"` + strings.Repeat("x", 257) + `","method":"a"}`, `{"jsonrpc":"2.0","id":false,"method":"a","result":1}`,
		`{"jsonrpc":"2.0","id":1,"result":1,"error":{}}`, `{"jsonrpc":"2.0","id":1,"result":null,"error":{}}`, `{"jsonrpc":"2.0","id":1}`, `{"jsonrpc":"2.0","id":1,"params":[]}`,
		`{"jsonrpc":"2.0","id":1,"error":null}`, `{"jsonrpc":"2.0","id":1,"error":[]}`, `{"jsonrpc":"2.0","id":1,"error":"x"}`, `{"jsonrpc":"2.0","id":1,"error":1,"result":1}`,
		`{"jsonrpc":"2.0","result":1}`, `{"jsonrpc":"2.0","error":{}}`, `{"jsonrpc":"2.0","id":1.5,"result":1}`, `{"jsonrpc":"2.0","id":{},"result":1}`, `{"jsonrpc":"2.0","id":true,"error":{}}`,
		`{"jsonrpc":"2.0","id":"` + strings.Repeat("x", 257) + `","result":1}`,
		`{"jsonrpc":"2.0"}`, `{}`, `[]`, `[{"jsonrpc":"2.0","method":"a"}]`, `null`, `1`, `"2.0"`, `true`, `{"x":{"jsonrpc":"2.0","method":"a"}}`,
	} {
		wantNone(t, parsed(t, s))
		wantSame(t, parsed(t, s))
	}
}

// TestReadOfOtherKinds has fields of a message in values that are no objects.
func TestReadOfOtherKinds(t *testing.T) { // P6.1, P0.1
	for kind := range 256 {
		v := Request(number("1"), "a", list())
		v.Kind, v.Text, v.List = uint8(kind), "{}", []api.Value{{}}
		if kind == int(api.JObject) {
			wantCall(t, v, api.Call{Kind: api.CRequest, ID: number("1"), Method: "a", Params: list()})
			continue
		}
		wantNone(t, v)
		if id := ID(v); !alike(id, api.Value{}) {
			t.Errorf("ID(%v): %v", v, id)
		}
	}
}

func TestReadWhatIsInvalid(t *testing.T) { // P6.1, P6.5
	junk := api.Value{Kind: api.JList, Text: "x", List: []api.Value{text("\xff"), {Kind: 9}}, Fields: []api.Field{field("a", number("01")), field("a", api.Value{})}}
	wantCall(t, object(field("jsonrpc", text("2.0")), field("method", text("a\xffé\xe2\x82"))), api.Call{Kind: api.CNotice, Method: "a\ufffdé\ufffd\ufffd"})
	wantCall(t, object(field("jsonrpc", text("2.0")), field("method", text("a")), field("params", junk)), api.Call{Kind: api.CNotice, Method: "a", Params: junk})
	wantCall(t, object(field("jsonrpc", text("2.0")), field("method", text("a")), field("params", api.Value{Text: "x", List: []api.Value{{}}})), api.Call{Kind: api.CNotice, Method: "a"})
	wantCall(t, object(field("jsonrpc", text("2.0")), field("id", number("1")), field("result", junk)), api.Call{Kind: api.CReply, ID: number("1")})
	version := api.Value{Kind: api.JText, Text: "2.0", List: []api.Value{{}}}
	wantCall(t, object(field("jsonrpc", version), field("method", api.Value{Kind: api.JText, Text: "a", Fields: []api.Field{{}}})), api.Call{Kind: api.CNotice, Method: "a"})
	for _, id := range []api.Value{{Text: "x"}, {List: []api.Value{{}}}, {Fields: []api.Field{{}}}, {Kind: api.JNumber, Text: "1", List: []api.Value{{}}}} {
		wantNone(t, object(field("jsonrpc", text("2.0")), field("id", id), field("result", api.Value{})))
	}
}

// TestReadOfEachCombination has each of some values, or none, for each of a message's fields, which stand in different orders.
func TestReadOfEachCombination(t *testing.T) { // P6.1, P6.2, P6.5
	kinds := [4]int{}
	eachMessage(func(v api.Value) {
		if t.Failed() { // of so many, one is enough
			return
		}
		wantSame(t, v)
		wantID(t, v)
		c, _ := Read(v)
		wantOneKind(t, c)
		kinds[c.Kind]++
	})
	if !t.Failed() && kinds != [4]int{311040 - 1188 - 396 - 360, 1188, 396, 360} {
		t.Errorf("so many of each kind: %v", kinds)
	}
}

// TestFieldsOfOneName puts another field of each name ahead of and behind the one that is there: the first one counts.
func TestFieldsOfOneName(t *testing.T) { // P6.1, P6.2
	for _, v := range messages() {
		for _, f := range v.Fields {
			for _, other := range append(validIDs(), wrongIDs()...) {
				again := field(f.Name, other)
				behind := object(append(v.Fields[:len(v.Fields):len(v.Fields)], again)...)
				ahead := object(append([]api.Field{again}, v.Fields...)...)
				c, _ := Read(v)
				wantCall(t, behind, c)
				wantID(t, behind)
				wantSame(t, ahead)
				wantID(t, ahead)
			}
		}
	}
}

func wantID(t *testing.T, v api.Value) {
	t.Helper()
	want, _ := first(v, "id")
	if !mayBeID(want) {
		want = api.Value{}
	}
	if id := ID(v); !alike(id, want) {
		t.Errorf("ID(%.300v): %.300v, not %.300v", v, id, want)
	}
}

func TestID(t *testing.T) { // P6.2
	for s, want := range map[string]api.Value{
		`{"id":7}`: number("7"), `{"jsonrpc":"1.0","x":1,"id":"a","method":1}`: text("a"), `{"id":""}`: text(""), `{"id":-0}`: number("-0"),
		`{"id":[]}`: {}, `{}`: {}, `[]`: {}, `{"id":null}`: {}, `{"id":1.5}`: {}, `{"id":true}`: {}, `{"id":{"id":1}}`: {}, `{"ID":1}`: {}, `{"x":{"id":1}}`: {}, `[{"id":1}]`: {}, `1`: {}, `"id"`: {}, `null`: {},
		`{"id":9223372036854775807}`: number("9223372036854775807"), `{"id":9223372036854775808}`: {},
	} {
		if id := ID(parsed(t, s)); !alike(id, want) {
			t.Errorf("ID(%s): %v, not %v", s, id, want)
		}
		wantID(t, parsed(t, s))
	}
	for _, id := range validIDs() {
		if got := ID(object(field("x", api.Value{}), field("id", id), field("id", number("5")))); !alike(got, id) {
			t.Errorf("ID: %.300v, not %.300v", got, id)
		}
	}
	for _, id := range wrongIDs() {
		if got := ID(object(field("id", id), field("id", number("5")))); !reflect.DeepEqual(got, api.Value{}) {
			t.Errorf("ID with the field %.300v: %.300v", id, got)
		}
	}
}

func TestMade(t *testing.T) { // P6.3
	one, null := number("1"), api.Value{}
	for _, c := range []struct {
		v    api.Value
		want string
	}{
		{Request(one, "a", list(number("2"))), `{"jsonrpc":"2.0","id":1,"method":"a","params":[2]}`},
		{Request(text("x"), "a/b", object()), `{"jsonrpc":"2.0","id":"x","method":"a/b","params":{}}`},
		{Request(one, "", null), `{"jsonrpc":"2.0","id":1,"method":""}`},
		{Request(null, "a", text("p")), `{"jsonrpc":"2.0","id":null,"method":"a","params":"p"}`},
		{Request(list(), "é\n", number("3")), `{"jsonrpc":"2.0","id":[],"method":"é\n","params":3}`},
		{Request(one, "a", api.Value{Kind: api.JFalse}), `{"jsonrpc":"2.0","id":1,"method":"a","params":false}`},
		{Request(one, "a", api.Value{Text: "x", List: []api.Value{{}}}), `{"jsonrpc":"2.0","id":1,"method":"a"}`},
		{Notice("a", list(number("2"))), `{"jsonrpc":"2.0","method":"a","params":[2]}`},
		{Notice("a", null), `{"jsonrpc":"2.0","method":"a"}`},
		{Notice("\xff", api.Value{Kind: api.JTrue}), `{"jsonrpc":"2.0","method":"` + "\ufffd" + `","params":true}`},
		{Reply(one, null), `{"jsonrpc":"2.0","id":1,"result":null}`},
		{Reply(null, object(field("a", list(one)))), `{"jsonrpc":"2.0","id":null,"result":{"a":[1]}}`},
		{Reply(object(), number("1.5")), `{"jsonrpc":"2.0","id":{},"result":1.5}`},
		{Fail(one, MethodNotFound, "no"), `{"jsonrpc":"2.0","id":1,"error":{"code":-32601,"message":"no"}}`},
		{Fail(null, 0, ""), `{"jsonrpc":"2.0","id":null,"error":{"code":0,"message":""}}`},
		{Fail(text("x"), math.MinInt, "a\xe2\x82b\xff"), `{"jsonrpc":"2.0","id":"x","error":{"code":-9223372036854775808,"message":"a` + "\ufffd\ufffdb\ufffd" + `"}}`},
		{Fail(text("x"), math.MaxInt, "é\x01"), `{"jsonrpc":"2.0","id":"x","error":{"code":9223372036854775807,"message":"é\u0001"}}`},
	} {
		if s, e := jsontext.Print(c.v); s != c.want || e != api.OK {
			t.Errorf("%s, %d, not %s", s, e, c.want)
		}
	}
}

// TestMadeOfAnything has arguments of each Kind, those that are not valid too: the fields are those of the chapter, in their order, with copies.
func TestMadeOfAnything(t *testing.T) { // P6.3
	version, method := field("jsonrpc", text("2.0")), field("method", text("m\ufffd"))
	for kind := range 256 {
		v := api.Value{Kind: uint8(kind), Text: "\xff", List: []api.Value{number("01"), {Kind: 9}}, Fields: []api.Field{field("a", list()), field("a", text("\xff"))}}
		for _, x := range []api.Value{v, {Kind: uint8(kind)}} {
			for _, id := range []api.Value{x, number("1"), {}} {
				head := []api.Field{version, field("id", id)}
				wantMade(t, Reply(id, x), append(head, field("result", x)))
				wantMade(t, Fail(id, kind, x.Text), append(head, field("error", object(field("code", number(strconv.Itoa(kind))), field("message", text(valid(x.Text)))))))
				if kind == 0 {
					wantMade(t, Request(id, "m\xff", x), append(head, method))
					wantMade(t, Notice("m\xff", x), []api.Field{version, method})
					continue
				}
				wantMade(t, Request(id, "m\xff", x), append(head, method, field("params", x)))
				wantMade(t, Notice("m\xff", x), []api.Field{version, method, field("params", x)})
			}
		}
	}
}

func wantMade(t *testing.T, v api.Value, fields []api.Field) {
	t.Helper()
	if !alike(v, object(fields...)) {
		t.Errorf("%v, not %v", v, fields)
	}
}

func TestRoundTrip(t *testing.T) { // P6.4
	for _, method := range []string{"", "a", "textDocument/didOpen", "é\n\"", "\xff", "a\xe2\x82", strings.Repeat("long", 1000)} {
		for _, p := range []api.Value{{}, list(), object(), list(number("1"), list(text("x"))), object(field("a", list()), field("b", api.Value{Kind: api.JTrue})), list(api.Value{Kind: 9}, text("\xff"))} {
			wantCall(t, Notice(method, p), api.Call{Kind: api.CNotice, Method: valid(method), Params: p})
			for _, id := range validIDs() {
				wantCall(t, Request(id, method, p), api.Call{Kind: api.CRequest, ID: id, Method: valid(method), Params: p})
			}
			for _, id := range wrongIDs() {
				wantNone(t, Request(id, method, p))
			}
		}
	}
	for _, id := range append(validIDs(), api.Value{}) {
		for _, v := range append(others(), validIDs()...) {
			wantCall(t, Reply(id, v), api.Call{Kind: api.CReply, ID: id})
			wantCall(t, Fail(id, math.MinInt, v.Text), api.Call{Kind: api.CReply, ID: id})
		}
	}
	for _, p := range others() {
		if p.Kind != api.JList && p.Kind != api.JObject && p.Kind != api.JNull {
			wantNone(t, Notice("a", p))
			wantNone(t, Request(number("1"), "a", p))
		}
	}
}

// wantOneKind asks that a call has one kind, and the fields of that kind alone, and that it is read again as it is.
func wantOneKind(t *testing.T, c api.Call) {
	t.Helper()
	switch c.Kind {
	case api.CRequest:
		if !mayBeID(c.ID) {
			t.Errorf("a request %.300v", c)
		}
		wantCall(t, Request(c.ID, c.Method, c.Params), c)
	case api.CNotice:
		if !alike(c.ID, api.Value{}) {
			t.Errorf("a notification %.300v", c)
		}
		wantCall(t, Notice(c.Method, c.Params), c)
	case api.CReply:
		if c.Method != "" || !alike(c.Params, api.Value{}) || !mayBeID(c.ID) && !alike(c.ID, api.Value{}) {
			t.Errorf("a reply %.300v", c)
		}
	default:
		if !reflect.DeepEqual(c, api.Call{}) {
			t.Errorf("a call without a kind: %.300v", c)
		}
	}
}

func TestDeepAndLong(t *testing.T) { // P0.1
	deep := number("1")
	for range 1 << 14 {
		deep = list(object(field("a", deep)))
	}
	long := strings.Repeat("a\xff", 1<<18)
	if MayID(deep) || MayID(text(long)) || MayID(number(strings.Repeat("1", 1<<20))) {
		t.Error("a deep or a long value is an ID")
	}
	wantCall(t, Request(number("1"), long, deep), api.Call{Kind: api.CRequest, ID: number("1"), Method: valid(long), Params: deep})
	wantCall(t, Reply(number("1"), deep), api.Call{Kind: api.CReply, ID: number("1")})
	wantNone(t, Request(deep, "a", deep))
	wantNone(t, deep)
	if id := ID(object(field("id", deep))); !alike(id, api.Value{}) {
		t.Error("the ID of a message is deep")
	}
}

// memory is where the elements and the bytes of values stand, up to the capacities.
type memory map[any]int

func (m memory) add(v api.Value) {
	l, fields := v.List[:cap(v.List)], v.Fields[:cap(v.Fields)]
	m.addText(v.Text)
	for i := range l {
		m[&l[i]]++
		m.add(l[i])
	}
	for i := range fields {
		m[&fields[i]]++
		m.addText(fields[i].Name)
		m.add(fields[i].V)
	}
}

func (m memory) addText(s string) {
	if len(s) > 1 { // a string of one byte may stand in a table that all such strings share
		m[unsafe.StringData(s)]++
	}
}

// wantApart asks that a result shares no memory with itself or with one of the arguments, which may share it with each other.
func wantApart(t *testing.T, result api.Value, arguments ...api.Value) {
	t.Helper()
	held, handed := memory{}, memory{}
	held.add(result)
	for _, v := range arguments {
		handed.add(v)
	}
	for place, n := range held {
		if n > 1 || handed[place] > 0 {
			t.Fatalf("memory is shared in %v", result)
		}
	}
}

// shared are values of which each slice and string stands in several places, and has unused capacity.
func shared() []api.Value {
	l := append(make([]api.Value, 0, 8), text(strings.Repeat("ab", 3)), number(strings.Repeat("12", 3)))
	f := append(make([]api.Field, 0, 8), field(strings.Repeat("ef", 3), list(l...)), field(l[0].Text, l[0]))
	twice := list(l...)
	return []api.Value{l[1], l[0], list(l...), object(f...), list(twice, twice, object(f...), object(f...)), {Kind: 9, Text: l[0].Text, List: l, Fields: f}}
}

func TestMadeSharesNoMemory(t *testing.T) { // P6.3, P0.4
	for _, id := range shared() {
		for _, v := range shared() {
			for _, pair := range [][2]api.Value{{id, v}, {v, v}} {
				method := strings.Repeat("m", 9)
				arguments := []api.Value{pair[0], pair[1], text(method)}
				before := []api.Value{filled(pair[0]), filled(pair[1])}
				wantApart(t, Request(pair[0], method, pair[1]), arguments...)
				wantApart(t, Notice(method, pair[1]), arguments...)
				wantApart(t, Reply(pair[0], pair[1]), arguments...)
				wantApart(t, Fail(pair[0], 12345, method), arguments...)
				if !alike(pair[0], before[0]) || !alike(pair[1], before[1]) {
					t.Errorf("the arguments became %v", pair)
				}
			}
		}
	}
}

func TestReadSharesNoMemory(t *testing.T) { // P6.1, P6.2, P0.4
	for _, id := range shared()[:2] {
		for _, p := range shared()[2:5] {
			v := object(field("jsonrpc", text("2.0")), field("id", id), field("method", text(strings.Repeat("m", 9))), field("params", p))
			before := filled(v)
			c, e := Read(v)
			if e != api.OK {
				t.Fatalf("Read(%v): %d", v, e)
			}
			wantApart(t, object(field(strings.Repeat("x", 5), c.ID), field(strings.Repeat("y", 5), c.Params), field(strings.Repeat("z", 5), text(c.Method))), v)
			wantApart(t, ID(v), v)
			if !alike(v, before) {
				t.Errorf("the value became %v", v)
			}
		}
	}
}

// TestCapacityStays asks that the memory between a slice's length and its capacity is not changed.
func TestCapacityStays(t *testing.T) { // P0.4
	spare := []api.Field{field("id", number("1")), field("method", text("a")), field("jsonrpc", text("2.0")), field("kept", text("kept")), field("kept", text("kept"))}
	v := object(spare[:3]...)
	v.Fields = spare[:3]
	params := list()
	params.List = []api.Value{number("1"), text("kept"), text("kept")}[:1]
	for range 2 {
		Read(v)
		ID(v)
		MayID(v)
		Request(v, "a", params)
		Notice("a", params)
		Reply(params, v)
		Fail(params, 1, "a")
	}
	if !alike(spare[3].V, text("kept")) || spare[3].Name != "kept" || !alike(spare[4].V, text("kept")) || !alike(params.List[:3][1], text("kept")) {
		t.Errorf("what lies behind became %v, %v", spare, params.List[:3])
	}
}
