package params

import (
	"math"

	"glossator/api"
	"glossator/json"
	"glossator/jsontext"
)

// reader reads a value as a T, and reports whether it is one.
type reader[T any] func(v api.Value) (T, bool)

// part reads one part of a value, and reports whether it is there.
type part func(v api.Value) bool

// reads reads the parts of v, up to one that is not there, and reports whether all are.
func reads(v api.Value, parts ...part) bool {
	for _, isThere := range parts {
		if !isThere(v) {
			return false
		}
	}
	return true
}

// to is the part that is read by as and put into place.
func to[T any](place *T, as reader[T]) part {
	return func(v api.Value) (ok bool) {
		*place, ok = as(v)
		return ok
	}
}

// in reads one field of a value. (What has fields is a JObject: nobody else need ask.)
func in[T any](name string, as reader[T]) reader[T] {
	return func(v api.Value) (T, bool) {
		value, has := json.Get(v, name)
		if !has {
			return none[T]()
		}
		return as(value)
	}
}

// inDocument reads one field of the document in parameters.
func inDocument[T any](name string, as reader[T]) reader[T] {
	return in("textDocument", in(name, as))
}

// listOf reads a JList, of which one reads each value.
func listOf[T any](one reader[T]) reader[[]T] {
	return func(v api.Value) ([]T, bool) {
		if v.Kind != api.JList {
			return nil, false
		}
		l := make([]T, len(v.List))
		for i, x := range v.List {
			if !to(&l[i], one)(x) {
				return nil, false
			}
		}
		return l, true
	}
}

func none[T any]() (T, bool) {
	var zero T
	return zero, false
}

func asItIs(v api.Value) (api.Value, bool) { return v, true }

func asString(v api.Value) (string, bool) { return v.Text, v.Kind == api.JText }

func asNumber(v api.Value) (int, bool) { return jsontext.Int(v) }

func asCount(v api.Value) (int, bool) {
	n, isInt := jsontext.Int(v)
	return n, isInt && n >= 0 && n <= math.MaxInt32
}

func asPosition(v api.Value) (p api.Pos, ok bool) {
	ok = reads(v, to(&p.Line, in("line", asCount)), to(&p.Char, in("character", asCount)))
	return p, ok
}

func asRange(v api.Value) (r api.Range, ok bool) {
	ok = reads(v, to(&r.Start, in("start", asPosition)), to(&r.End, in("end", asPosition)))
	return r, ok
}

func asChange(v api.Value) (c api.Change, ok bool) {
	parts := []part{to(&c.Text, in("text", asString))}
	if r, has := json.Get(v, "range"); has && r.Kind != api.JNull {
		c.Ranged = true
		parts = append(parts, to(&c.Range, in("range", asRange)))
	}
	ok = reads(v, parts...)
	return c, ok
}

// judge is the first error of parameters: whether they are well-formed, their URI, and whether each list is short enough.
func judge(wellFormed bool, uri string, short ...bool) api.Errno {
	if !wellFormed {
		return api.ErrParams
	}
	if len(uri) > api.MaxURI {
		return api.ErrLong
	}
	for _, isShort := range short {
		if !isShort {
			return api.ErrFull
		}
	}
	return api.OK
}

func atMost[T any](most int, l []T) bool { return len(l) <= most }
