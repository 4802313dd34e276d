package jsontext

import (
	"fmt"
	"reflect"
	"regexp"
	"strings"
	"unicode/utf8"

	"glossator/api"
)

// The reference: what is valid and how it is written, in the words of the chapter. It shares nothing with the package, and nothing with utf and json.

var numbers = regexp.MustCompile(`^-?(0|[1-9][0-9]*)(\.[0-9]+)?([eE][+-]?[0-9]+)?$`)

// mayBe reports whether v is valid, as deep as it is.
func mayBe(v api.Value) bool { return fieldsFit(v) && depthOf(v) <= 64 }

func fieldsFit(v api.Value) bool {
	if v.Kind != api.JNumber && v.Kind != api.JText && v.Text != "" || v.Kind != api.JList && len(v.List) > 0 || v.Kind != api.JObject && len(v.Fields) > 0 {
		return false
	}
	for _, x := range v.List {
		if !fieldsFit(x) {
			return false
		}
	}
	for i, f := range v.Fields {
		for _, before := range v.Fields[:i] {
			if before.Name == f.Name {
				return false
			}
		}
		if !utf8.ValidString(f.Name) || !fieldsFit(f.V) {
			return false
		}
	}
	return v.Kind <= 6 && (v.Kind != api.JNumber || numbers.MatchString(v.Text)) && utf8.ValidString(v.Text)
}

// depthOf is how many lists and objects stand in each other.
func depthOf(v api.Value) int {
	depth := 0
	for _, x := range v.List {
		depth = max(depth, depthOf(x))
	}
	for _, f := range v.Fields {
		depth = max(depth, depthOf(f.V))
	}
	if v.Kind == api.JList || v.Kind == api.JObject {
		depth++
	}
	return depth
}

// written is how a valid value is written.
func written(v api.Value) string {
	var items []string
	switch v.Kind {
	case api.JNumber:
		return v.Text
	case api.JText:
		return quoted(v.Text)
	case api.JList:
		for _, x := range v.List {
			items = append(items, written(x))
		}
		return "[" + strings.Join(items, ",") + "]"
	case api.JObject:
		for _, f := range v.Fields {
			items = append(items, quoted(f.Name)+":"+written(f.V))
		}
		return "{" + strings.Join(items, ",") + "}"
	}
	return []string{"null", "false", "true"}[v.Kind]
}

// quoted is a string as it is quoted.
func quoted(s string) string {
	var b strings.Builder
	for len(s) > 0 {
		r, size := utf8.DecodeRuneInString(s)
		if short, ok := shorts()[s[0]]; ok {
			b.WriteString(short)
		} else if r < 0x20 {
			fmt.Fprintf(&b, `\u%04x`, r)
		} else {
			b.WriteRune(r)
		}
		s = s[size:]
	}
	return `"` + b.String() + `"`
}

func shorts() map[byte]string {
	return map[byte]string{0x22: `\"`, 0x5c: `\\`, 0x08: `\b`, 0x09: `\t`, 0x0a: `\n`, 0x0c: `\f`, 0x0d: `\r`}
}

// alike reports whether two values are equal; nil and empty lists are.
func alike(a, b api.Value) bool { return reflect.DeepEqual(filled(a), filled(b)) }

// filled copies a value, with lists that are not nil.
func filled(v api.Value) api.Value {
	l, fields := []api.Value{}, []api.Field{}
	for _, x := range v.List {
		l = append(l, filled(x))
	}
	for _, f := range v.Fields {
		fields = append(fields, field(f.Name, filled(f.V)))
	}
	return api.Value{Kind: v.Kind, Text: v.Text, List: l, Fields: fields}
}

func number(s string) api.Value            { return api.Value{Kind: api.JNumber, Text: s} }
func text(s string) api.Value              { return api.Value{Kind: api.JText, Text: s} }
func list(l ...api.Value) api.Value        { return api.Value{Kind: api.JList, List: l} }
func object(fields ...api.Field) api.Value { return api.Value{Kind: api.JObject, Fields: fields} }
func field(name string, v api.Value) api.Field {
	return api.Field{Name: name, V: v}
}

// nested is v inside n lists and objects, by turns, or all of one kind.
func nested(v api.Value, n int, kinds ...uint8) api.Value {
	for i := range n {
		if kinds[i%len(kinds)] == api.JList {
			v = list(v)
		} else {
			v = object(field("a", v))
		}
	}
	return v
}

// eachText calls f with every concatenation of at most most of the pieces.
func eachText(pieces []string, most int, f func(s string)) {
	f("")
	if most == 0 {
		return
	}
	eachText(pieces, most-1, func(s string) {
		for _, p := range pieces {
			f(p + s)
		}
	})
}

// odd are values that are not valid by themselves.
func odd() []api.Value {
	return []api.Value{
		{Kind: 7}, {Kind: 255, Text: "1"}, {Text: "x"}, {Kind: api.JTrue, List: []api.Value{{}}}, {Kind: api.JFalse, Fields: []api.Field{{}}},
		number(""), number("01"), number("1 "), {Kind: api.JNumber, Text: "1", List: []api.Value{{}}}, text("\xff"), text("a\xc3"),
		{Kind: api.JText, Fields: []api.Field{{}}}, {Kind: api.JList, Text: "x"}, {Kind: api.JList, Fields: []api.Field{{}}},
		{Kind: api.JObject, Text: "x"}, {Kind: api.JObject, List: []api.Value{{}}}, object(field("\xff", api.Value{})),
		object(field("a", api.Value{}), field("a", api.Value{})), object(field("a", api.Value{}), field("b", api.Value{}), field("a", text(""))),
	}
}

// atoms are valid values without elements and fields.
func atoms() []api.Value {
	return []api.Value{
		{}, {Kind: api.JFalse}, {Kind: api.JTrue}, number("0"), number("-0"), number("1"), number("1.0"), number("1e0"), number("-12.50E+03"),
		text(""), text("1"), text("null"), text("[1]"), text("\"\\\n\x01\x7f"), text("é€\U0001F600"), text("\ufffd"), {Kind: api.JList}, {Kind: api.JObject, List: []api.Value{}},
	}
}

// samples are values of all kinds, valid ones and others, no two of them equal.
func samples() []api.Value {
	small := append(atoms(), odd()...)
	all := append([]api.Value{}, small...)
	for _, a := range small {
		all = append(all, list(a), object(field("", a)), object(field("a", a)), list(list(a)), list(object(field("é\n", a))), object(field("b", list(a, a))))
		for _, b := range small {
			all = append(all, list(a, b), object(field("a", a), field("\"b", b)), list(a, list(b)), object(field("c", a), field("d", object(field("c", b)))))
		}
	}
	return all
}
