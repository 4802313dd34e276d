package jsontext

import (
	"unicode/utf8"

	"glossator/api"
)

const hexDigits = digits + "abcdef"

// appendValue appends a valid value as it is written, or nothing behind what is too long already: Print returns none of it then.
func appendValue(b []byte, v api.Value) []byte {
	if len(b) > api.MaxJSON {
		return b
	}
	return kinds()[v.Kind].write(b, v)
}

func appendNull(b []byte, _ api.Value) []byte { return append(b, "null"...) }

func appendFalse(b []byte, _ api.Value) []byte { return append(b, "false"...) }

func appendTrue(b []byte, _ api.Value) []byte { return append(b, "true"...) }

func appendNumber(b []byte, v api.Value) []byte { return append(b, v.Text...) }

func appendText(b []byte, v api.Value) []byte { return appendQuoted(b, v.Text) }

func appendList(b []byte, v api.Value) []byte {
	return append(appendItems(append(b, '['), v.List, appendValue), ']')
}

func appendObject(b []byte, v api.Value) []byte {
	return append(appendItems(append(b, '{'), v.Fields, appendField), '}')
}

func appendField(b []byte, f api.Field) []byte {
	return appendValue(append(appendQuoted(b, f.Name), ':'), f.V)
}

// appendItems appends items by one, separated by commas.
func appendItems[T any](b []byte, items []T, one func([]byte, T) []byte) []byte {
	for i, item := range items {
		if i > 0 {
			b = append(b, ',')
		}
		b = one(b, item)
	}
	return b
}

func appendQuoted(b []byte, s string) []byte {
	b = append(b, '"')
	for _, c := range s { // range tells an invalid byte as U+FFFD, which is what is to be written
		b = appendCharacter(b, c)
	}
	return append(b, '"')
}

func appendCharacter(b []byte, c rune) []byte {
	switch c {
	case '"', '\\':
		return append(b, '\\', byte(c))
	case '\b':
		return append(b, `\b`...)
	case '\t':
		return append(b, `\t`...)
	case '\n':
		return append(b, `\n`...)
	case '\f':
		return append(b, `\f`...)
	case '\r':
		return append(b, `\r`...)
	}
	if c < ' ' {
		return append(b, '\\', 'u', '0', '0', hexDigits[c>>4], hexDigits[c&15])
	}
	return utf8.AppendRune(b, c)
}
