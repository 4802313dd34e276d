package rpc

import (
	"glossator/api"
	"glossator/json"
	"glossator/jsontext"
)

// called are the fields that a request and a notification have in common.
func called(method string, params api.Value) []api.Field {
	fields := []api.Field{{Name: "method", V: jsontext.Text(method)}}
	if isOf(params, api.JNull) {
		return fields
	}
	return append(fields, api.Field{Name: "params", V: params})
}

// made makes a message of its fields after the version.
func made(fields []api.Field) api.Value {
	first := api.Field{Name: "jsonrpc", V: jsontext.Text(version)}
	return copied(objectOf(append([]api.Field{first}, fields...)))
}

func objectOf(fields []api.Field) api.Value { return api.Value{Kind: api.JObject, Fields: fields} }

// copied copies v, whatever it is: the fields of a message that is made hold arguments. (Get shares no memory with what it looks into.)
func copied(v api.Value) api.Value {
	v, _ = json.Get(objectOf([]api.Field{{V: v}}), "")
	return v
}
