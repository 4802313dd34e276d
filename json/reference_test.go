package json

import (
	lib "encoding/json"
	"slices"
	"strings"
	"unicode/utf8"

	"glossator/api"
)

// The reference for errors: a machine that is fed byte by byte, with a stack of the open brackets. It shares nothing with the package, and nothing with utf.

// machine's state names what may come next: "value", "first" (or an end of the list), "name", "firstname" (or an end of the object), "colon", "after" a value; "text", "escape", "4" to "1" (so many hexadecimal digits); "minus", "zero", "int", "dot", "frac", "exp", "sign", "power"; or "=" and the rest of a word.
type machine struct {
	state string
	open  []byte
	named bool // the text is a field's name
}

// expected is the error of a text and its offset.
func expected(s string) (api.Errno, int) {
	if len(s) > api.MaxJSON {
		return api.ErrLong, 0
	}
	m := machine{state: "value"}
	for i := range len(s) {
		if begins(s, i) {
			if r, size := utf8.DecodeRuneInString(s[i:]); r == utf8.RuneError && size == 1 {
				return api.ErrJSON, i
			}
		}
		if e := m.feed(s[i]); e != api.OK {
			return e, i
		}
	}
	if m.between() != "after" || len(m.open) > 0 {
		return api.ErrJSON, len(s)
	}
	return api.OK, 0
}

// begins reports whether a character or an invalid byte begins at i, if all before i is valid.
func begins(s string, i int) bool {
	for at := max(i-3, 0); at < i; at++ {
		if r, size := utf8.DecodeRuneInString(s[at:]); r != utf8.RuneError && at+size > i {
			return false
		}
	}
	return true
}

// between is the state, or "after" if a number may end here.
func (m *machine) between() string {
	if slices.Contains([]string{"zero", "int", "frac", "power"}, m.state) {
		return "after"
	}
	return m.state
}

func (m *machine) feed(c byte) api.Errno {
	if m.within(c) || m.number(c) {
		return api.OK
	}
	m.state = m.between()
	if strings.IndexByte(" \t\r\n", c) >= 0 && slices.Contains([]string{"value", "first", "name", "firstname", "colon", "after"}, m.state) {
		return api.OK
	}
	return m.structure(c)
}

// within is a step inside a string or a word; if there is none, the state stays or is one in which every byte is wrong.
func (m *machine) within(c byte) bool {
	state := m.state
	switch {
	case state == "text" && c == '"' && m.named:
		m.state = "colon"
	case state == "text" && c == '"':
		m.state = "after"
	case state == "text" && c == '\\':
		m.state = "escape"
	case state == "text":
		return c >= 32
	case state == "escape" && c == 'u':
		m.state = "4"
	case state == "escape" && strings.IndexByte("\"\\/bfnrt", c) >= 0:
		m.state = "text"
	case state == "1" && hexadecimal(c):
		m.state = "text"
	case state >= "2" && state <= "4" && hexadecimal(c):
		m.state = string(rune(state[0] - 1))
	case state[0] == '=' && c == state[1] && len(state) == 2:
		m.state = "after"
	case state[0] == '=' && c == state[1]:
		m.state = "=" + state[2:]
	default:
		return false
	}
	return true
}

func hexadecimal(c byte) bool {
	return c >= '0' && c <= '9' || c >= 'a' && c <= 'f' || c >= 'A' && c <= 'F'
}

// number is a step inside a number.
func (m *machine) number(c byte) bool {
	class := string(rune(c))
	switch {
	case c == '0':
	case c >= '1' && c <= '9':
		class = "1"
	case c == 'E':
		class = "e"
	case c == '-':
		class = "+"
	}
	next := map[string]string{
		"minus 0": "zero", "minus 1": "int", "int 0": "int", "int 1": "int",
		"zero .": "dot", "int .": "dot", "zero e": "exp", "int e": "exp",
		"dot 0": "frac", "dot 1": "frac", "frac 0": "frac", "frac 1": "frac", "frac e": "exp",
		"exp +": "sign", "exp 0": "power", "exp 1": "power", "sign 0": "power", "sign 1": "power",
		"power 0": "power", "power 1": "power",
	}[m.state+" "+class]
	if next == "" {
		return false
	}
	m.state = next
	return true
}

// structure is a step between strings, words and numbers.
func (m *machine) structure(c byte) api.Errno {
	inside := byte(0)
	if len(m.open) > 0 {
		inside = m.open[len(m.open)-1]
	}
	starts := m.state == "value" || m.state == "first"
	switch {
	case starts && (c == '[' || c == '{') && len(m.open) == 64:
		return api.ErrDeep
	case starts && c == '[':
		m.state, m.open = "first", append(m.open, c)
	case starts && c == '{':
		m.state, m.open = "firstname", append(m.open, c)
	case c == '"' && (starts || m.state == "name" || m.state == "firstname"):
		m.named = !starts
		m.state = "text"
	case starts && words()[c] != "":
		m.state = words()[c]
	case c == ':' && m.state == "colon":
		m.state = "value"
	case c == ',' && m.state == "after" && inside == '[':
		m.state = "value"
	case c == ',' && m.state == "after" && inside == '{':
		m.state = "name"
	case c == ']' && inside == '[' && (m.state == "after" || m.state == "first"),
		c == '}' && inside == '{' && (m.state == "after" || m.state == "firstname"):
		m.state, m.open = "after", m.open[:len(m.open)-1]
	default:
		return api.ErrJSON
	}
	return api.OK
}

// words are the states behind the first byte of a word or a number.
func words() map[byte]string {
	w := map[byte]string{'n': "=ull", 'f': "=alse", 't': "=rue", '-': "minus", '0': "zero"}
	for c := byte('1'); c <= '9'; c++ {
		w[c] = "int"
	}
	return w
}

// The reference for values: the library's tokens, put together.

func valueOf(s string) api.Value {
	d := lib.NewDecoder(strings.NewReader(s))
	d.UseNumber()
	return next(d)
}

func next(d *lib.Decoder) api.Value {
	token, err := d.Token()
	if err != nil {
		panic(err)
	}
	switch x := token.(type) {
	case bool:
		if x {
			return api.Value{Kind: api.JTrue}
		}
		return api.Value{Kind: api.JFalse}
	case lib.Number:
		return number(string(x))
	case string:
		return text(x)
	case lib.Delim:
		v := api.Value{Kind: api.JList}
		if x == '{' {
			v.Kind = api.JObject
		}
		for d.More() {
			if x == '[' {
				v.List = append(v.List, next(d))
				continue
			}
			name := next(d).Text
			v.Fields = put(v.Fields, name, next(d))
		}
		d.Token()
		return v
	}
	return api.Value{}
}

// put sets the field of that name, or appends it.
func put(fields []api.Field, name string, v api.Value) []api.Field {
	for i := range fields {
		if fields[i].Name == name {
			fields[i].V = v
			return fields
		}
	}
	return append(fields, api.Field{Name: name, V: v})
}

func number(s string) api.Value            { return api.Value{Kind: api.JNumber, Text: s} }
func text(s string) api.Value              { return api.Value{Kind: api.JText, Text: s} }
func list(l ...api.Value) api.Value        { return api.Value{Kind: api.JList, List: l} }
func object(fields ...api.Field) api.Value { return api.Value{Kind: api.JObject, Fields: fields} }
func field(name string, v api.Value) api.Field {
	return api.Field{Name: name, V: v}
}

// same reports whether two values are equal; nil and empty lists are.
func same(a, b api.Value) bool {
	return a.Kind == b.Kind && a.Text == b.Text && slices.EqualFunc(a.List, b.List, same) &&
		slices.EqualFunc(a.Fields, b.Fields, func(f, g api.Field) bool { return f.Name == g.Name && same(f.V, g.V) })
}

// eachText calls f with the start followed by every concatenation of at most most of the pieces, but goes on only from those that have no wrong byte yet.
func eachText(start string, pieces []string, most int, f func(s string)) {
	seen := map[string]bool{}
	var grow func(s string, n int)
	grow = func(s string, n int) {
		if !seen[s] {
			seen[s] = true
			f(s)
		}
		e, at := expected(s)
		if n == most || e != api.OK && at < len(s) {
			return
		}
		for _, p := range pieces {
			grow(s+p, n+1)
		}
	}
	grow(start, 0)
}

// eachSample calls f with texts of all kinds, right ones and wrong ones: short ones of any pieces, and longer ones of brackets, of numbers and of strings.
func eachSample(f func(s string)) {
	eachText("", []string{
		"[", "]", "{", "}", ",", ":", " ", "\t", "\v", "\n", "\"", "\\", "u", "0", "7", "-", "+", ".", "e", "E",
		"n", "null", "tru", "false", "\"a\"", "\"a\":", "\"\\u0061\":", "b", "\x00", "\x7f", "é", "\xff", "\xc3",
	}, 4, f)
	eachText("[", []string{"[", "]", "{", "}", ",", ":", "\"a\"", "\"\\u0061\":1", "\"b\":"}, 6, f)
	eachText("-", []string{"0", "1", "9", "-", "+", ".", "e", "E", "\r"}, 6, f)
	eachText("\"", []string{"\\ud83d", "\\uDBFF", "\\uDE00", "\\udc00", "\\u00E9", "\\n", "x", "\xf0\x9f\x98\x80", "\""}, 5, f)
	eachText("\"\\", []string{"u", "0", "9", "a", "F", "g", "G", "/", "\\", "\"", "b", "x"}, 5, f)
}
