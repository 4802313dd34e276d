package json

import (
	"strconv"
	"strings"

	"glossator/api"
	"glossator/utf"
)

const (
	blanks    = " \t\n\r"
	digits    = "0123456789"
	hexDigits = digits + "abcdefABCDEF"
)

// reader reads a JSON text. It raises an error by a panic with its number, and stands at the wrong byte then.
type reader struct {
	s     string
	at    int // the next byte
	depth int // how many lists and objects are open
}

// peek is the next byte. At the end it is 0, which the grammar has nowhere, so the end is wrong wherever a byte is asked for.
func (r *reader) peek() byte {
	if r.at == len(r.s) {
		return 0
	}
	return r.s[r.at]
}

// skip reads the next byte if it is among the given ones.
func (r *reader) skip(among string) bool {
	if strings.IndexByte(among, r.peek()) < 0 {
		return false
	}
	r.at++
	return true
}

// skipAll reads all bytes up to one that is not among the given ones.
func (r *reader) skipAll(among string) {
	for r.skip(among) {
	}
}

// take reads and tells the next byte, which must be among the given ones.
func (r *reader) take(among string) byte {
	c := r.peek()
	if !r.skip(among) {
		panic(api.ErrJSON)
	}
	return c
}

// end raises an error unless all is read.
func (r *reader) end() {
	if r.at < len(r.s) {
		panic(api.ErrJSON)
	}
}

// value reads a value with the whitespace around it.
func (r *reader) value() api.Value {
	r.skipAll(blanks)
	v := r.bare()
	r.skipAll(blanks)
	return v
}

// bare reads a value without whitespace around it.
func (r *reader) bare() api.Value {
	switch r.peek() {
	case 'n':
		return r.word("null", api.JNull)
	case 'f':
		return r.word("false", api.JFalse)
	case 't':
		return r.word("true", api.JTrue)
	case '"':
		return api.Value{Kind: api.JText, Text: r.text()}
	case '[':
		return api.Value{Kind: api.JList, List: r.list()}
	case '{':
		return api.Value{Kind: api.JObject, Fields: r.fields()}
	}
	return api.Value{Kind: api.JNumber, Text: r.number()}
}

func (r *reader) word(w string, kind uint8) api.Value {
	for i := range len(w) {
		r.take(w[i : i+1])
	}
	return api.Value{Kind: kind}
}

// number reads a number as it is written. A byte behind it that does not belong there is wrong to whoever called.
func (r *reader) number() string {
	from := r.at
	r.skip("-")
	if r.take(digits) != '0' {
		r.skipAll(digits)
	}
	if r.skip(".") {
		r.someDigits()
	}
	if r.skip("eE") {
		r.skip("+-")
		r.someDigits()
	}
	return strings.Clone(r.s[from:r.at]) // so that a number does not keep the whole text
}

// someDigits reads digits, at least one.
func (r *reader) someDigits() {
	r.take(digits)
	r.skipAll(digits)
}

func (r *reader) list() []api.Value {
	var list []api.Value
	r.items("[", "]", func() { list = append(list, r.value()) })
	return list
}

// fields reads an object: one field of each name, where the first of that name stands, with the last one's value.
func (r *reader) fields() []api.Field {
	var fields []api.Field
	places := map[string]int{}
	r.items("{", "}", func() {
		name := r.name()
		v := r.value()
		i, again := places[name]
		if again {
			fields[i].V = v
			return
		}
		places[name] = len(fields)
		fields = append(fields, api.Field{Name: name, V: v})
	})
	return fields
}

// name reads a field's name and the colon behind it.
func (r *reader) name() string {
	r.skipAll(blanks)
	name := r.text()
	r.skipAll(blanks)
	r.take(":")
	return name
}

// items reads what stands in brackets, separated by commas, each by item.
func (r *reader) items(left, right string, item func()) {
	if r.depth == api.MaxNest {
		panic(api.ErrDeep)
	}
	r.depth++
	r.take(left)
	r.skipAll(blanks)
	if !r.skip(right) {
		item()
		for r.take(","+right) == ',' {
			item()
		}
	}
	r.depth--
}

// text reads a string in quotes, without them.
func (r *reader) text() string {
	var runes []rune
	r.take(`"`)
	for !r.skip(`"`) {
		runes = join(runes, r.character())
	}
	return string(runes) // a surrogate that is left alone becomes U+FFFD here
}

// character reads a character of a string, or the code unit that an escape denotes.
func (r *reader) character() rune {
	if r.skip(`\`) {
		return r.escape()
	}
	c, size, ok := utf.Next(r.s, r.at)
	if !ok || c < ' ' {
		panic(api.ErrJSON)
	}
	r.at += size
	return c
}

// escape reads what follows a backslash.
func (r *reader) escape() rune {
	switch c := r.take(`"\/bfnrtu`); c {
	case 'b':
		return '\b'
	case 'f':
		return '\f'
	case 'n':
		return '\n'
	case 'r':
		return '\r'
	case 't':
		return '\t'
	case 'u':
		return r.unit()
	default:
		return rune(c)
	}
}

// unit reads four hexadecimal digits.
func (r *reader) unit() rune {
	from := r.at
	for range 4 {
		r.take(hexDigits)
	}
	u, _ := strconv.ParseUint(r.s[from:r.at], 16, 16) // cannot fail: it has just the digits
	return rune(u)
}

// join appends a character. A high and a low surrogate become one: only escapes yield them, so two in succession are two consecutive escapes.
func join(runes []rune, c rune) []rune {
	last := len(runes) - 1
	if last < 0 || !within(runes[last], 0xd800, 0xdbff) || !within(c, 0xdc00, 0xdfff) {
		return append(runes, c)
	}
	runes[last] = 0x10000 + (runes[last]-0xd800)<<10 + (c - 0xdc00)
	return runes
}

func within(c, least, most rune) bool { return least <= c && c <= most }
