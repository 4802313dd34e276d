package jsontext

import (
	"glossator/api"
	"glossator/utf"
)

// kind is what a Kind requires of a value's fields, at a depth, and how a value that meets that is written.
type kind struct {
	text   func(s string) bool
	list   func(list []api.Value, depth int) bool
	fields func(fields []api.Field, depth int) bool
	write  func(b []byte, v api.Value) []byte
}

func kinds() [api.JObject + 1]kind {
	return [...]kind{
		api.JNull:   {noText, noList, noFields, appendNull},
		api.JFalse:  {noText, noList, noFields, appendFalse},
		api.JTrue:   {noText, noList, noFields, appendTrue},
		api.JNumber: {isNumber, noList, noFields, appendNumber},
		api.JText:   {utf.Valid, noList, noFields, appendText},
		api.JList:   {noText, validList, noFields, appendList},
		api.JObject: {noText, noList, validFields, appendObject},
	}
}

// valid reports whether v is valid inside depth lists and objects.
func valid(v api.Value, depth int) bool {
	if v.Kind > api.JObject {
		return false
	}
	k := kinds()[v.Kind]
	return k.text(v.Text) && k.list(v.List, depth) && k.fields(v.Fields, depth)
}

func noText(s string) bool { return s == "" }

func noList(list []api.Value, _ int) bool { return len(list) == 0 }

func noFields(fields []api.Field, _ int) bool { return len(fields) == 0 }

func validList(list []api.Value, depth int) bool {
	if depth == api.MaxNest {
		return false
	}
	for _, v := range list {
		if !valid(v, depth+1) {
			return false
		}
	}
	return true
}

func validFields(fields []api.Field, depth int) bool {
	if depth == api.MaxNest {
		return false
	}
	names := make(map[string]struct{}, len(fields))
	for _, f := range fields {
		_, again := names[f.Name]
		if again || !utf.Valid(f.Name) || !valid(f.V, depth+1) {
			return false
		}
		names[f.Name] = struct{}{}
	}
	return true
}
