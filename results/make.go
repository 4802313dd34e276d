package results

import (
	"slices"

	"glossator/api"
	"glossator/jsontext"
)

// object is the JObject of names, each with its value behind it: a string is a name, an int or a Value is a value.
func object(parts ...any) api.Value {
	fields := make([]api.Field, 0, len(parts)/2)
	for _, part := range parts {
		switch x := part.(type) {
		case string:
			fields = append(fields, api.Field{Name: x})
		case int:
			fields[len(fields)-1].V = jsontext.Number(x)
		case api.Value:
			fields[len(fields)-1].V = x
		}
	}
	return api.Value{Kind: api.JObject, Fields: fields}
}

// list is the JList of what one makes of each element.
func list[T any](l []T, one func(T) api.Value) api.Value {
	values := make([]api.Value, len(l))
	for i, x := range l {
		values[i] = one(x)
	}
	return api.Value{Kind: api.JList, List: values}
}

func numbers(l []int) api.Value { return list(l, jsontext.Number) }

func splice(s api.Splice) api.Value {
	return object("start", s.Start, "deleteCount", s.Delete, "data", numbers(s.Data))
}

func fold(f api.Fold) api.Value {
	parts := []any{"startLine", f.StartLine, "endLine", f.EndLine}
	if f.Comment {
		parts = append(parts, "kind", jsontext.Text("comment"))
	}
	return object(parts...)
}

// chain is made from its last range on, not by recursion: no chain is too long for it.
func chain(l []api.Range) (v api.Value) {
	for i, r := range slices.Backward(l) {
		parts := []any{"range", place(r)}
		if i < len(l)-1 {
			parts = append(parts, "parent", v)
		}
		v = object(parts...)
	}
	return v
}

func place(r api.Range) api.Value { return object("start", position(r.Start), "end", position(r.End)) }

func position(p api.Pos) api.Value { return object("line", p.Line, "character", p.Char) }
