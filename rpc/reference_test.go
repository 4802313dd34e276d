package rpc

import (
	"math/big"
	"reflect"
	"regexp"
	"strings"
	"unicode/utf8"

	"glossator/api"
)

// The reference: what is a valid ID, what is a message and what its call, in the words of the chapter. It shares nothing with the package, and nothing with json and jsontext.

var integers = regexp.MustCompile(`^-?(0|[1-9][0-9]*)$`)

func mayBeID(v api.Value) bool {
	if len(v.List) > 0 || len(v.Fields) > 0 {
		return false
	}
	switch v.Kind {
	case 3:
		n, _ := new(big.Int).SetString(v.Text, 10)
		return integers.MatchString(v.Text) && n.IsInt64()
	case 4:
		return len(v.Text) <= 256 && utf8.ValidString(v.Text)
	}
	return false
}

// callOf is the call of v, if v is a message.
func callOf(v api.Value) (api.Call, bool) {
	version, _ := first(v, "jsonrpc")
	if v.Kind != 6 || version.Kind != 4 || version.Text != "2.0" {
		return api.Call{}, false
	}
	if _, has := first(v, "method"); has {
		return askedOf(v)
	}
	id, hasID := first(v, "id")
	_, hasResult := first(v, "result")
	fault, hasFault := first(v, "error")
	if !hasID || !mayBeID(id) && !alike(id, api.Value{}) || hasResult && hasFault || !hasResult && !hasFault || hasFault && fault.Kind != 6 {
		return api.Call{}, false
	}
	return api.Call{Kind: 3, ID: id}, true
}

// askedOf is the call of v, if v is a request or a notification.
func askedOf(v api.Value) (api.Call, bool) {
	method, _ := first(v, "method")
	params, _ := first(v, "params")
	id, hasID := first(v, "id")
	if method.Kind != 4 || params.Kind != 5 && params.Kind != 6 && params.Kind != 0 || hasID && !mayBeID(id) {
		return api.Call{}, false
	}
	c := api.Call{Kind: 2, Method: valid(method.Text)}
	if hasID {
		c = api.Call{Kind: 1, ID: id, Method: valid(method.Text)}
	}
	if params.Kind != 0 {
		c.Params = params
	}
	return c, true
}

// first is the value of the first field of that name.
func first(v api.Value, name string) (api.Value, bool) {
	for _, f := range v.Fields {
		if v.Kind == 6 && f.Name == name {
			return f.V, true
		}
	}
	return api.Value{}, false
}

// valid is a string with U+FFFD for each invalid byte.
func valid(s string) string {
	var b strings.Builder
	for _, r := range s {
		b.WriteRune(r)
	}
	return b.String()
}

// alike reports whether two values are equal; nil and empty lists are.
func alike(a, b api.Value) bool { return reflect.DeepEqual(filled(a), filled(b)) }

func alikeCalls(a, b api.Call) bool {
	return a.Kind == b.Kind && a.Method == b.Method && alike(a.ID, b.ID) && alike(a.Params, b.Params)
}

// filled copies a value, with lists that are not nil.
func filled(v api.Value) api.Value {
	l, fields := []api.Value{}, []api.Field{}
	for _, x := range v.List {
		l = append(l, filled(x))
	}
	for _, f := range v.Fields {
		fields = append(fields, field(f.Name, filled(f.V)))
	}
	return api.Value{Kind: v.Kind, Text: v.Text, List: l, Fields: fields}
}

func number(s string) api.Value                { return api.Value{Kind: api.JNumber, Text: s} }
func text(s string) api.Value                  { return api.Value{Kind: api.JText, Text: s} }
func list(l ...api.Value) api.Value            { return api.Value{Kind: api.JList, List: l} }
func object(f ...api.Field) api.Value          { return api.Value{Kind: api.JObject, Fields: f} }
func field(name string, v api.Value) api.Field { return api.Field{Name: name, V: v} }
