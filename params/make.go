package params

import (
	"glossator/api"
	"glossator/json"
	"glossator/jsontext"
)

func object(fields ...api.Field) api.Value { return api.Value{Kind: api.JObject, Fields: fields} }

func field(name string, v api.Value) api.Field { return api.Field{Name: name, V: v} }

// list is the JList of what one makes of each element.
func list[T any](l []T, one func(T) api.Value) api.Value {
	values := make([]api.Value, len(l))
	for i, x := range l {
		values[i] = one(x)
	}
	return api.Value{Kind: api.JList, List: values}
}

func document(uri string) api.Field {
	return field("textDocument", object(field("uri", jsontext.Text(uri))))
}

func change(c api.Change) api.Value {
	text := field("text", jsontext.Text(c.Text))
	if !c.Ranged {
		return object(text)
	}
	place := object(field("start", position(c.Range.Start)), field("end", position(c.Range.End)))
	return object(field("range", place), text)
}

func position(p api.Pos) api.Value {
	return object(field("line", jsontext.Number(p.Line)), field("character", jsontext.Number(p.Char)))
}

// copied copies v, whatever it is. (Get shares no memory with what it looks into.)
func copied(v api.Value) api.Value {
	v, _ = json.Get(object(field("", v)), "")
	return v
}
