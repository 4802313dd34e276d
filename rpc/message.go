package rpc

import (
	"slices"

	"glossator/api"
	"glossator/json"
	"glossator/jsontext"
)

const version = "2.0"

// message is the fields that say whether a value is a message, and which one.
type message struct {
	jsonrpc, method, params, id, result, fault found
}

// found is what Get returns of a field: a copy, or JNull if there is none.
type found struct {
	v   api.Value
	has bool
}

func messageOf(v api.Value) message {
	return message{
		jsonrpc: find(v, "jsonrpc"),
		method:  find(v, "method"),
		params:  find(v, "params"),
		id:      find(v, "id"),
		result:  find(v, "result"),
		fault:   find(v, "error"),
	}
}

func find(v api.Value, name string) found {
	value, has := json.Get(v, name)
	return found{value, has}
}

// kind is what m is, if it is a message.
func (m message) kind() uint8 {
	if !m.method.has {
		return api.CReply
	}
	if !m.id.has {
		return api.CNotice
	}
	return api.CRequest
}

// requirements are what a message of a kind requires of its fields.
func requirements(kind uint8) []func(message) bool {
	switch kind {
	case api.CRequest:
		return []func(message) bool{message.hasVersion, message.hasMethod, message.mayHaveParams, message.hasID}
	case api.CNotice:
		return []func(message) bool{message.hasVersion, message.hasMethod, message.mayHaveParams}
	default:
		return []func(message) bool{message.hasVersion, message.hasIDOrNull, message.hasOneOutcome, message.mayHaveFault}
	}
}

func (m message) hasVersion() bool {
	return isOf(m.jsonrpc.v, api.JText) && m.jsonrpc.v.Text == version
}

func (m message) hasMethod() bool { return isOf(m.method.v, api.JText) }

// mayHaveParams holds without params too, which Get returns as JNull.
func (m message) mayHaveParams() bool {
	return isOf(m.params.v, api.JList, api.JObject, api.JNull)
}

func (m message) hasID() bool { return MayID(m.id.v) }

func (m message) hasIDOrNull() bool {
	isNull := isOf(m.id.v, api.JNull) && jsontext.May(m.id.v)
	return m.id.has && (isNull || MayID(m.id.v))
}

func (m message) hasOneOutcome() bool { return m.result.has != m.fault.has }

func (m message) mayHaveFault() bool { return !m.fault.has || isOf(m.fault.v, api.JObject) }

// call is the call of m, which is a message. Made into a message again, it must be read as the same call: so a method is made valid here, as it would be there, and params of the Kind JNull, which would be left out there, are JNull and nothing else.
func (m message) call() api.Call {
	c := api.Call{Kind: m.kind(), ID: m.id.v}
	if c.Kind == api.CReply {
		return c
	}
	c.Method = jsontext.Text(m.method.v.Text).Text
	if !isOf(m.params.v, api.JNull) {
		c.Params = m.params.v
	}
	return c
}

// isOf reports whether v is of one of the Kinds.
func isOf(v api.Value, kinds ...uint8) bool { return slices.Contains(kinds, v.Kind) }
