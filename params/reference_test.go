package params

import (
	"math"
	"math/big"
	"reflect"
	"regexp"
	"strconv"
	"strings"

	"glossator/api"
)

// The reference: which parameters are well-formed, what they contain, and what is made, in the words of the chapter. It shares nothing with the package, and nothing with json and jsontext.

// The calls that read parameters; the others are methods that ask questions.
const (
	toOpen   = "textDocument/didOpen"
	toChange = "textDocument/didChange"
	toClose  = "textDocument/didClose"
	toCancel = "$/cancelRequest"
	toInit   = "initialize"
)

var questions = []string{"textDocument/semanticTokens/full", "textDocument/semanticTokens/full/delta", "textDocument/foldingRange", "textDocument/selectionRange"}

// answer is all that a call that reads parameters may answer.
type answer struct {
	uri     string
	version int
	text    string
	changes []api.Change
	ask     api.Ask
	id      api.Value
	e       api.Errno
}

// expected is what the call must answer.
func expected(call string, v api.Value) answer {
	kind := questionOf(call)
	uri, changes, spots := inside(v, "textDocument", "uri").Text, inside(v, "contentChanges").List, inside(v, "positions").List
	switch {
	case kind == 0 && call != toOpen && call != toChange && call != toClose && call != toCancel && call != toInit:
		return answer{e: 2}
	case !wellFormed(call, v):
		return answer{e: 70}
	case call == toCancel:
		return answer{id: inside(v, "id")}
	case call == toInit:
		return answer{}
	case len(uri) > 256:
		return answer{e: 3}
	case call == toChange && len(changes) > 64, kind == 4 && len(spots) > 64:
		return answer{e: 4}
	case kind == 2:
		return answer{ask: api.Ask{Kind: kind, URI: uri, Previous: inside(v, "previousResultId").Text}}
	case kind == 4:
		return answer{ask: api.Ask{Kind: kind, URI: uri, Spots: spotsOf(spots)}}
	case kind != 0:
		return answer{ask: api.Ask{Kind: kind, URI: uri}}
	}
	a := answer{uri: uri}
	if call == toOpen || call == toChange {
		a.version = int(integer(inside(v, "textDocument", "version")).Int64())
	}
	if call == toOpen {
		a.text = inside(v, "textDocument", "text").Text
	}
	if call == toChange {
		a.changes = changesOf(changes)
	}
	return a
}

func questionOf(method string) uint8 {
	for i, m := range questions {
		if m == method {
			return uint8(i + 1)
		}
	}
	return 0
}

func wellFormed(call string, v api.Value) bool {
	d := inside(v, "textDocument")
	isDocument := d.Kind == 6 && inside(d, "uri").Kind == 4
	switch {
	case v.Kind != 6:
		return false
	case call == toOpen:
		return isDocument && isInt(inside(d, "version")) && inside(d, "text").Kind == 4
	case call == toChange:
		return isDocument && isInt(inside(d, "version")) && isListOf(inside(v, "contentChanges"), isChange)
	case call == toCancel:
		_, has := first(v, "id")
		return has
	case call == toInit:
		return true
	case questionOf(call) == 2:
		return isDocument && inside(v, "previousResultId").Kind == 4
	case questionOf(call) == 4:
		return isDocument && isListOf(inside(v, "positions"), isPosition)
	}
	return isDocument
}

func isListOf(v api.Value, is func(api.Value) bool) bool {
	all := true
	for _, x := range v.List {
		all = all && is(x)
	}
	return v.Kind == 5 && all
}

func isChange(v api.Value) bool {
	r, _ := first(v, "range") // JNull if there is none
	return v.Kind == 6 && inside(v, "text").Kind == 4 && (r.Kind == 0 || isRange(r))
}

func isRange(v api.Value) bool {
	return v.Kind == 6 && isPosition(inside(v, "start")) && isPosition(inside(v, "end"))
}

func isPosition(v api.Value) bool {
	return v.Kind == 6 && isCount(inside(v, "line")) && isCount(inside(v, "character"))
}

func isCount(v api.Value) bool {
	return isInt(v) && integer(v).Sign() >= 0 && integer(v).Cmp(big.NewInt(math.MaxInt32)) <= 0
}

var integers = regexp.MustCompile(`^-?(0|[1-9][0-9]*)$`)

func isInt(v api.Value) bool {
	return v.Kind == 3 && integers.MatchString(v.Text) && integer(v).IsInt64()
}

func integer(v api.Value) *big.Int {
	n, _ := new(big.Int).SetString(v.Text, 10)
	return n
}

func changesOf(l []api.Value) (changes []api.Change) {
	for _, v := range l {
		c := api.Change{Text: inside(v, "text").Text}
		if r := inside(v, "range"); r.Kind != 0 {
			c.Ranged = true
			c.Range = api.Range{Start: spotOf(inside(r, "start")), End: spotOf(inside(r, "end"))}
		}
		changes = append(changes, c)
	}
	return changes
}

func spotsOf(l []api.Value) (spots []api.Pos) {
	for _, v := range l {
		spots = append(spots, spotOf(v))
	}
	return spots
}

func spotOf(v api.Value) api.Pos {
	return api.Pos{Line: int(integer(inside(v, "line")).Int64()), Char: int(integer(inside(v, "character")).Int64())}
}

// inside is the field of a field of a value, and so on; JNull if there is none.
func inside(v api.Value, names ...string) api.Value {
	for _, name := range names {
		v, _ = first(v, name)
	}
	return v
}

// first is the value of the first field of that name.
func first(v api.Value, name string) (api.Value, bool) {
	for _, f := range v.Fields {
		if v.Kind == 6 && f.Name == name {
			return f.V, true
		}
	}
	return api.Value{}, false
}

// valid is a string with U+FFFD for each invalid byte.
func valid(s string) string {
	var b strings.Builder
	for _, r := range s {
		b.WriteRune(r)
	}
	return b.String()
}

// The values made: of a document with that URI and more fields, of changes and of positions.

func madeDocument(uri string, more ...api.Field) api.Field {
	return named("textDocument", with(append([]api.Field{named("uri", text(valid(uri)))}, more...)...))
}

func madeChanges(changes []api.Change) api.Value {
	l := values()
	for _, c := range changes {
		v := with(named("text", text(valid(c.Text))))
		if c.Ranged {
			v = with(named("range", with(named("start", madeSpot(c.Range.Start)), named("end", madeSpot(c.Range.End)))), v.Fields[0])
		}
		l.List = append(l.List, v)
	}
	return l
}

func madeSpots(spots []api.Pos) api.Value {
	l := values()
	for _, p := range spots {
		l.List = append(l.List, madeSpot(p))
	}
	return l
}

func madeSpot(p api.Pos) api.Value {
	return with(named("line", number(strconv.Itoa(p.Line))), named("character", number(strconv.Itoa(p.Char))))
}

// alike reports whether two values are equal; nil and empty lists are.
func alike(a, b api.Value) bool { return reflect.DeepEqual(filled(a), filled(b)) }

// filled copies a value, with lists that are not nil.
func filled(v api.Value) api.Value {
	l, fields := []api.Value{}, []api.Field{}
	for _, x := range v.List {
		l = append(l, filled(x))
	}
	for _, f := range v.Fields {
		fields = append(fields, named(f.Name, filled(f.V)))
	}
	return api.Value{Kind: v.Kind, Text: v.Text, List: l, Fields: fields}
}

func number(s string) api.Value                { return api.Value{Kind: api.JNumber, Text: s} }
func text(s string) api.Value                  { return api.Value{Kind: api.JText, Text: s} }
func values(l ...api.Value) api.Value          { return api.Value{Kind: api.JList, List: l} }
func with(f ...api.Field) api.Value            { return api.Value{Kind: api.JObject, Fields: f} }
func named(name string, v api.Value) api.Field { return api.Field{Name: name, V: v} }
