package rpc

import (
	"strings"

	"glossator/api"
)

func validIDs() []api.Value {
	return []api.Value{
		number("0"), number("1"), number("-0"), number("-12"), number("9223372036854775807"), number("-9223372036854775808"),
		text(""), text("x"), text("1"), text("\x00\n\""), text("é€\U0001F600"), text(strings.Repeat("x", 255)), text(strings.Repeat("x", 256)), text(strings.Repeat("é", 128)),
		{Kind: api.JNumber, Text: "5", List: []api.Value{}, Fields: []api.Field{}},
	}
}

func wrongIDs() []api.Value {
	return append(others(),
		number("1.5"), number("1.0"), number("1e2"), number("9223372036854775808"), number("-9223372036854775809"), number("100000000000000000000"), number("01"), number(""), number("-"), number("+1"), number("x"), number("1\xff"),
		text(strings.Repeat("x", 257)), text(strings.Repeat("é", 128)+"x"), text("x"+strings.Repeat("é", 128)), text("\xff"), text("a\xe2\x82"),
		api.Value{Kind: api.JNumber, Text: "1", List: []api.Value{{}}}, api.Value{Kind: api.JNumber, Text: "1", Fields: []api.Field{{}}},
		api.Value{Kind: api.JText, Text: "x", List: []api.Value{{}}}, api.Value{Kind: api.JText, Text: "x", Fields: []api.Field{{}}},
	)
}

// others are values that are neither numbers nor strings.
func others() []api.Value {
	return []api.Value{
		{}, {Text: "1"}, {List: []api.Value{{}}}, {Fields: []api.Field{{}}}, {Kind: api.JFalse}, {Kind: api.JTrue}, {Kind: api.JTrue, Text: "1"},
		list(), list(number("1")), object(), object(field("a", list())), {Kind: api.JList, Text: "1"}, {Kind: api.JObject, Text: "x", List: []api.Value{{Kind: 9}}}, {Kind: 7, Text: "1"}, {Kind: 255},
	}
}

// messages are requests, notifications and replies.
func messages() []api.Value {
	return []api.Value{
		Request(number("1"), "a", list(number("2"))), Request(text("x"), "b", api.Value{}), Notice("c", object()), Notice("d", api.Value{}),
		Reply(number("3"), api.Value{}), Reply(api.Value{}, list()), Fail(text("y"), 4, "e"), Fail(api.Value{}, 5, ""),
	}
}

// eachMessage tells each value that has, for each name, one of some values or no field.
func eachMessage(tell func(v api.Value)) {
	choices := []struct {
		name   string
		values []api.Value
	}{
		{"jsonrpc", []api.Value{text("2.0"), text("2.1"), number("2.0")}},
		{"method", []api.Value{text("a"), text("\xff"), number("1"), {}, list()}},
		{"params", append(others(), number("1"), text("x"))},
		{"id", append(append(validIDs()[:0:0], validIDs()[3], validIDs()[7], validIDs()[12]), wrongIDs()...)},
		{"result", []api.Value{{}, number("1")}},
		{"error", []api.Value{object(), object(field("code", number("1"))), {}, list(), {Kind: api.JObject, Text: "x"}}},
	}
	turn := 0
	var choose func(i int, chosen []api.Field)
	choose = func(i int, chosen []api.Field) {
		if i == len(choices) {
			turn++
			tell(object(turned(chosen, turn)...))
			return
		}
		choose(i+1, chosen)
		for _, v := range choices[i].values {
			choose(i+1, append(chosen[:len(chosen):len(chosen)], field(choices[i].name, v)))
		}
	}
	choose(0, nil)
}

// turned puts the fields into another order: n says which, and whether a field of no meaning is among them.
func turned(fields []api.Field, n int) []api.Field {
	if n%3 == 0 {
		fields = append(fields[:len(fields):len(fields)], field("x", number("1")))
	}
	if len(fields) == 0 {
		return fields
	}
	at := n % len(fields)
	return append(append([]api.Field{}, fields[at:]...), fields[:at]...)
}
