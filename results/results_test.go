package results

import (
	lib "encoding/json"
	"math"
	"reflect"
	"slices"
	"strings"
	"testing"
	"unsafe"

	"glossator/api"
	"glossator/json"
	"glossator/jsontext"
)

// wantWritten asks that a result is valid and written so.
func wantWritten(t *testing.T, v api.Value, want string) {
	t.Helper()
	if s, e := jsontext.Print(v); s != want || e != api.OK || !jsontext.May(v) {
		t.Errorf("%.900s, %d, not %.900s", s, e, want)
	}
}

// wantMade asks that a result has the fields of the reference, by name, number and order, and no other field set anywhere.
func wantMade(t *testing.T, v, want api.Value) {
	t.Helper()
	if !alike(v, want) {
		t.Errorf("%.600v, not %.600v", v, want)
	}
}

func TestFull(t *testing.T) { // P8.1
	wantWritten(t, Full("1", []int{0, 4, 3, 0, 0}), `{"resultId":"1","data":[0,4,3,0,0]}`)
	wantWritten(t, Full("", nil), `{"resultId":"","data":[]}`)
	wantWritten(t, Full("", []int{}), `{"resultId":"","data":[]}`)
	wantWritten(t, Full("12", []int{7}), `{"resultId":"12","data":[7]}`)
	wantWritten(t, Full("a\"\\\n\x01é", []int{-1, 0, 1}), `{"resultId":"a\"\\\n\u0001é","data":[-1,0,1]}`)
	wantWritten(t, Full("\xffx\xe2\x82", []int{math.MaxInt, math.MinInt}), `{"resultId":"`+"\ufffdx\ufffd\ufffd"+`","data":[9223372036854775807,-9223372036854775808]}`)
	for _, id := range ids() {
		for _, data := range datas() {
			wantMade(t, Full(id, data), fullMade(id, data))
		}
	}
}

func TestDelta(t *testing.T) { // P8.1
	wantWritten(t, Delta("2", []api.Splice{{Start: 5, Data: []int{1, 2}}}), `{"resultId":"2","edits":[{"start":5,"deleteCount":0,"data":[1,2]}]}`)
	wantWritten(t, Delta("", nil), `{"resultId":"","edits":[]}`)
	wantWritten(t, Delta("", []api.Splice{}), `{"resultId":"","edits":[]}`)
	wantWritten(t, Delta("3", []api.Splice{{Start: 1, Delete: 2}, {Start: 3, Delete: 4, Data: []int{}}}), `{"resultId":"3","edits":[{"start":1,"deleteCount":2,"data":[]},{"start":3,"deleteCount":4,"data":[]}]}`)
	wantWritten(t, Delta("\"\xff", []api.Splice{{Start: -1, Delete: math.MaxInt, Data: []int{math.MinInt}}}), `{"resultId":"\"`+"\ufffd"+`","edits":[{"start":-1,"deleteCount":9223372036854775807,"data":[-9223372036854775808]}]}`)
	for _, id := range ids() {
		for _, l := range splices() {
			wantMade(t, Delta(id, l), deltaMade(id, l))
		}
	}
}

func TestFolds(t *testing.T) { // P8.2
	wantWritten(t, Folds([]api.Fold{{StartLine: 1, EndLine: 3}, {StartLine: 4, EndLine: 5, Comment: true}}), `[{"startLine":1,"endLine":3},{"startLine":4,"endLine":5,"kind":"comment"}]`)
	wantWritten(t, Folds(nil), `[]`)
	wantWritten(t, Folds([]api.Fold{}), `[]`)
	wantWritten(t, Folds([]api.Fold{{Comment: true}, {}, {Comment: true}}), `[{"startLine":0,"endLine":0,"kind":"comment"},{"startLine":0,"endLine":0},{"startLine":0,"endLine":0,"kind":"comment"}]`)
	wantWritten(t, Folds([]api.Fold{{StartLine: math.MinInt, EndLine: -1}, {StartLine: math.MaxInt, EndLine: math.MaxInt - 1, Comment: true}}),
		`[{"startLine":-9223372036854775808,"endLine":-1},{"startLine":9223372036854775807,"endLine":9223372036854775806,"kind":"comment"}]`)
	for _, l := range folds() {
		wantMade(t, Folds(l), foldsMade(l))
	}
}

func TestChains(t *testing.T) { // P8.3
	a, b, c := api.Range{Start: api.Pos{Char: 1}, End: api.Pos{Char: 2}}, api.Range{End: api.Pos{Line: 1}}, api.Range{Start: api.Pos{Line: math.MaxInt, Char: -1}, End: api.Pos{Line: -2, Char: math.MinInt}}
	first := `{"range":{"start":{"line":0,"character":1},"end":{"line":0,"character":2}}`
	second := `{"range":{"start":{"line":0,"character":0},"end":{"line":1,"character":0}}`
	third := `{"range":{"start":{"line":9223372036854775807,"character":-1},"end":{"line":-2,"character":-9223372036854775808}}`
	for _, x := range []struct {
		l    [][]api.Range
		want string
	}{
		{[][]api.Range{{a, b}, {}}, "[" + first + `,"parent":` + second + "}},null]"},
		{nil, "[]"},
		{[][]api.Range{}, "[]"},
		{[][]api.Range{nil}, "[null]"},
		{[][]api.Range{{}, nil}, "[null,null]"},
		{[][]api.Range{{c}}, "[" + third + "}]"},
		{[][]api.Range{{b, a, c}}, "[" + second + `,"parent":` + first + `,"parent":` + third + "}}}]"},
		{[][]api.Range{nil, {a}, {a, a}, {}, {c, b}}, "[null," + first + "}," + first + `,"parent":` + first + "}},null," + third + `,"parent":` + second + "}}]"},
	} {
		wantWritten(t, Chains(x.l), x.want)
	}
	for _, l := range chainLists() {
		wantMade(t, Chains(l), chainsMade(l))
	}
}

// TestChainsOfManyRanges has the deepest nesting that the document promises anything for, and walks down into it.
func TestChainsOfManyRanges(t *testing.T) { // P8.3, P8.5, P8.6, P0.1
	long := chainOf(1 << 16)
	v := Chains([][]api.Range{chainOf(1), long, nil})
	if v.Kind != api.JList || len(v.List) != 3 || jsontext.May(v) {
		t.Fatalf("%d chains of the Kind %d", len(v.List), v.Kind)
	}
	x := v.List[1]
	for i, r := range long {
		if x.Kind != api.JObject || x.Text != "" || x.List != nil || x.Fields[0].Name != "range" || !alike(x.Fields[0].V, rangeMade(r)) {
			t.Fatalf("the range %d is %.200v", i, x.Fields)
		}
		if i == len(long)-1 {
			break
		}
		if len(x.Fields) != 2 || x.Fields[1].Name != "parent" {
			t.Fatalf("behind the range %d is no parent", i)
		}
		x = x.Fields[1].V
	}
	if len(x.Fields) != 1 {
		t.Errorf("behind the last range are %.200v", x.Fields[1:])
	}
	wantMade(t, values(v.List[0], v.List[2]), chainsMade([][]api.Range{chainOf(1), nil}))
}

func wantLegend(t *testing.T) {
	t.Helper()
	if !slices.Equal(Types(), legendTypes[:]) || !slices.Equal(Modifiers(), legendModifiers[:]) {
		t.Errorf("the legend is %q and %q", Types(), Modifiers())
	}
}

func TestLegend(t *testing.T) { // P8.4, P0.4
	wantLegend(t)
	for range 3 { // what one call returned is changed, up to its capacity
		for _, l := range [][]string{Types(), Modifiers()} {
			l = l[:cap(l)]
			for i := range l {
				l[i] = "changed"
			}
			_ = append(l[:0], "other", "and another")
		}
		wantLegend(t)
		wantMade(t, Capabilities(), capabilitiesMade())
	}
	slices.Reverse(Types())
	slices.Sort(Modifiers())
	wantLegend(t)
}

func TestCapabilities(t *testing.T) { // P8.4, P0.4
	wantWritten(t, Capabilities(), capabilities)
	wantMade(t, Capabilities(), capabilitiesMade())
	for range 3 {
		overwrite(Capabilities())
		wantWritten(t, Capabilities(), capabilities)
		wantMade(t, Capabilities(), capabilitiesMade())
		wantLegend(t)
	}
}

// overwrite changes all memory of a value, up to the capacities.
func overwrite(v api.Value) {
	l, fields := v.List[:cap(v.List)], v.Fields[:cap(v.Fields)]
	for i := range l {
		overwrite(l[i])
		l[i] = text("changed")
	}
	for i := range fields {
		overwrite(fields[i].V)
		fields[i] = named("changed", text("changed"))
	}
}

// The readers: what a result was made from, by Get and Int alone.

func at(t *testing.T, v api.Value, name string) api.Value {
	t.Helper()
	x, has := json.Get(v, name)
	if !has {
		t.Fatalf("no field %s in %.200v", name, v)
	}
	return x
}

func intOf(t *testing.T, v api.Value) int {
	t.Helper()
	n, ok := jsontext.Int(v)
	if !ok {
		t.Fatalf("no int: %.200v", v)
	}
	return n
}

func listOf[T any](t *testing.T, v api.Value, one func(*testing.T, api.Value) T) (l []T) {
	t.Helper()
	if v.Kind != api.JList {
		t.Fatalf("no list: %.200v", v)
	}
	for _, x := range v.List {
		l = append(l, one(t, x))
	}
	return l
}

func dataOf(t *testing.T, v api.Value) []int { return listOf(t, v, intOf) }

func spliceOf(t *testing.T, v api.Value) api.Splice {
	return api.Splice{Start: intOf(t, at(t, v, "start")), Delete: intOf(t, at(t, v, "deleteCount")), Data: dataOf(t, at(t, v, "data"))}
}

func foldOf(t *testing.T, v api.Value) api.Fold {
	kind, has := json.Get(v, "kind")
	if has && !alike(kind, text("comment")) {
		t.Fatalf("a fold of the kind %v", kind)
	}
	return api.Fold{StartLine: intOf(t, at(t, v, "startLine")), EndLine: intOf(t, at(t, v, "endLine")), Comment: has}
}

func spotOf(t *testing.T, v api.Value) api.Pos {
	return api.Pos{Line: intOf(t, at(t, v, "line")), Char: intOf(t, at(t, v, "character"))}
}

func chainRead(t *testing.T, v api.Value) (l []api.Range) {
	for has := v.Kind != api.JNull; has; v, has = json.Get(v, "parent") {
		r := at(t, v, "range")
		l = append(l, api.Range{Start: spotOf(t, at(t, r, "start")), End: spotOf(t, at(t, r, "end"))})
	}
	return l
}

func sameSplice(a, b api.Splice) bool {
	return a.Start == b.Start && a.Delete == b.Delete && slices.Equal(a.Data, b.Data)
}

// forms are a result, and the same written and read again, if it can be written.
func forms(t *testing.T, v api.Value) []api.Value {
	t.Helper()
	s, e := jsontext.Print(v)
	if e != api.OK {
		return []api.Value{v}
	}
	back, _, e := json.Parse(s)
	if e != api.OK || !jsontext.Same(v, back) {
		t.Fatalf("%.200s is read as %.200v, %d", s, back, e)
	}
	return []api.Value{v, back}
}

func TestReadingBack(t *testing.T) { // P8.5
	for _, id := range ids() {
		for _, data := range datas() {
			for _, v := range forms(t, Full(id, data)) {
				if !alike(at(t, v, "resultId"), text(valid(id))) || !slices.Equal(dataOf(t, at(t, v, "data")), data) {
					t.Errorf("%.100q, %.200v are read from %.600v", id, data, v)
				}
			}
		}
		for _, l := range splices() {
			for _, v := range forms(t, Delta(id, l)) {
				if !alike(at(t, v, "resultId"), text(valid(id))) || !slices.EqualFunc(listOf(t, at(t, v, "edits"), spliceOf), l, sameSplice) {
					t.Errorf("%.100q, %.200v are read from %.600v", id, l, v)
				}
			}
		}
	}
	for _, l := range folds() {
		for _, v := range forms(t, Folds(l)) {
			if !slices.Equal(listOf(t, v, foldOf), l) {
				t.Errorf("%.200v are read from %.600v", l, v)
			}
		}
	}
	for _, l := range chainLists() {
		for _, v := range forms(t, Chains(l)) {
			if !slices.EqualFunc(listOf(t, v, chainRead), l, slices.Equal) {
				t.Errorf("%.200v are read from %.600v", l, v)
			}
		}
	}
}

// The results as the library reads them.

type fullRead struct {
	ResultID string `json:"resultId"`
	Data     []int  `json:"data"`
}

type deltaRead struct {
	ResultID string `json:"resultId"`
	Edits    []struct {
		Start       int   `json:"start"`
		DeleteCount int   `json:"deleteCount"`
		Data        []int `json:"data"`
	} `json:"edits"`
}

type foldRead struct {
	StartLine int     `json:"startLine"`
	EndLine   int     `json:"endLine"`
	Kind      *string `json:"kind"`
}

type spotRead struct {
	Line      int `json:"line"`
	Character int `json:"character"`
}

type chainLink struct {
	Range struct {
		Start spotRead `json:"start"`
		End   spotRead `json:"end"`
	} `json:"range"`
	Parent *chainLink `json:"parent"`
}

// read has the library read a result as it is written; fields that into does not have are an error.
func read(t *testing.T, v api.Value, into any) {
	t.Helper()
	s, e := jsontext.Print(v)
	d := lib.NewDecoder(strings.NewReader(s))
	d.DisallowUnknownFields()
	if err := d.Decode(into); e != api.OK || err != nil || d.More() {
		t.Fatalf("%.300s, %d: %v", s, e, err)
	}
}

func TestReadByTheLibrary(t *testing.T) { // P8.5, P8.6
	for _, id := range ids() {
		for _, data := range datas() {
			var r fullRead
			if read(t, Full(id, data), &r); r.ResultID != valid(id) || !slices.Equal(r.Data, data) {
				t.Errorf("%.100q, %.200v are read as %.300v", id, data, r)
			}
		}
		for _, l := range splices() {
			var r deltaRead
			read(t, Delta(id, l), &r)
			if r.ResultID != valid(id) || len(r.Edits) != len(l) {
				t.Fatalf("%.100q, %.200v are read as %.300v", id, l, r)
			}
			for i, x := range r.Edits {
				if !sameSplice(api.Splice{Start: x.Start, Delete: x.DeleteCount, Data: x.Data}, l[i]) {
					t.Errorf("the splice %v is read as %v", l[i], x)
				}
			}
		}
	}
	for _, l := range folds() {
		var r []foldRead
		read(t, Folds(l), &r)
		same := slices.EqualFunc(r, l, func(x foldRead, f api.Fold) bool {
			return x.StartLine == f.StartLine && x.EndLine == f.EndLine && (x.Kind != nil) == f.Comment && (x.Kind == nil || *x.Kind == "comment")
		})
		if !same {
			t.Errorf("%.200v are read as %.300v", l, r)
		}
	}
	for _, l := range chainLists() {
		if !allShort(l) {
			continue
		}
		var r []*chainLink
		if read(t, Chains(l), &r); !slices.EqualFunc(r, l, sameChain) {
			t.Errorf("%.200v are read as %.300v", l, r)
		}
	}
}

// allShort reports whether no chain has more than 61 ranges.
func allShort(l [][]api.Range) bool {
	return !slices.ContainsFunc(l, func(c []api.Range) bool { return len(c) > 61 })
}

func sameChain(link *chainLink, l []api.Range) bool {
	for _, r := range l {
		if link == nil || link.Range.Start != (spotRead{r.Start.Line, r.Start.Char}) || link.Range.End != (spotRead{r.End.Line, r.End.Char}) {
			return false
		}
		link = link.Parent
	}
	return link == nil
}

func wantValid(t *testing.T, v api.Value, want bool) {
	t.Helper()
	if jsontext.May(v) != want {
		t.Errorf("valid: %v: %.600v", !want, v)
	}
}

func TestMay(t *testing.T) { // P8.6
	for _, id := range ids() {
		for _, data := range datas() {
			wantValid(t, Full(id, data), true)
		}
		for _, l := range splices() {
			wantValid(t, Delta(id, l), true)
		}
	}
	for _, l := range folds() {
		wantValid(t, Folds(l), true)
	}
	for _, l := range chainLists() {
		wantValid(t, Chains(l), allShort(l))
	}
	wantValid(t, Capabilities(), true)
}

func TestMayOfChains(t *testing.T) { // P8.6
	for n := range 130 {
		for _, l := range [][][]api.Range{{chainOf(n)}, {nil, chainOf(n), chainOf(1)}, {make([]api.Range, n), make([]api.Range, n)}} {
			wantValid(t, Chains(l), n <= 61)
			if _, e := jsontext.Print(Chains(l)); (e == api.OK) != (n <= 61) {
				t.Errorf("chains of %d ranges: %d", n, e)
			}
		}
	}
}

// TestMayOfLongResults has results that are too long to be written, but valid.
func TestMayOfLongResults(t *testing.T) { // P8.6
	const most = api.MaxJSON
	for _, v := range []api.Value{
		Full("1", make([]int, most)), Full(strings.Repeat("\xff", most), nil), Delta("1", []api.Splice{{Data: make([]int, most)}}), Delta("1", make([]api.Splice, most/20)),
		Folds(make([]api.Fold, most/20)), Chains(make([][]api.Range, most)), Chains(slices.Repeat([][]api.Range{chainOf(61)}, 100)),
	} {
		wantValid(t, v, true)
		if s, e := jsontext.Print(v); e != api.ErrLong {
			t.Errorf("%d bytes are written, %d", len(s), e)
		}
	}
}

// memory is where the elements of slices stand, up to the capacities, and the bytes of strings.
type memory map[any]int

func addSlice[T any](m memory, l []T, one func(T)) {
	l = l[:cap(l)]
	for i := range l {
		m[&l[i]]++
		one(l[i])
	}
}

func nothing[T any](T) {}

func (m memory) addValue(v api.Value) {
	if v.Kind == api.JText {
		m.addText(v.Text)
	}
	addSlice(m, v.List, m.addValue)
	addSlice(m, v.Fields, func(f api.Field) { m.addValue(f.V) })
}

func (m memory) addText(s string) {
	if len(s) > 1 { // a string of one byte may stand in a table that all such strings share
		m[unsafe.StringData(s)]++
	}
}

// TestSharesNoMemory has arguments with unused capacity, whose parts stand in several places.
func TestSharesNoMemory(t *testing.T) { // P8.4, P0.4
	id, data := strings.Repeat("s", 9), append(make([]int, 0, 8), 11, 11)
	edits := append(make([]api.Splice, 0, 8), api.Splice{Start: 12, Data: data}, api.Splice{Start: 12, Data: data})
	folds := append(make([]api.Fold, 0, 8), api.Fold{StartLine: 13, Comment: true}, api.Fold{StartLine: 13, Comment: true})
	chain := append(make([]api.Range, 0, 8), chainOf(3)...)
	chains := append(make([][]api.Range, 0, 8), chain, chain, chain[1:])
	handed, held := memory{}, memory{}
	handed.addText(id)
	addSlice(handed, data, nothing)
	addSlice(handed, edits, nothing)
	addSlice(handed, folds, nothing)
	addSlice(handed, chain, nothing)
	addSlice(handed, chains, nothing)
	for range 2 { // what one call returns, no other one does
		for _, v := range []api.Value{Full(id, data), Delta(id, edits), Folds(folds), Chains(chains), Capabilities()} {
			held.addValue(v)
		}
		addSlice(held, Types(), nothing)
		addSlice(held, Modifiers(), nothing)
	}
	for place, n := range held {
		if n > 1 || handed[place] > 0 {
			t.Fatal("memory is shared")
		}
	}
}

// TestArgumentsStay has slices with memory behind their ends, and asks that nothing there or in them is changed.
func TestArgumentsStay(t *testing.T) { // P0.4
	type arguments struct {
		data   []int
		edits  []api.Splice
		folds  []api.Fold
		ranges []api.Range
		chains [][]api.Range
	}
	made := func() (a arguments) {
		a.data = []int{3, 2, 1, 99}
		a.edits = []api.Splice{{Start: 2, Delete: 1, Data: a.data[:2]}, {Start: 1, Data: a.data[1:3]}, {Start: 99, Delete: 99}}
		a.folds = []api.Fold{{StartLine: 2, EndLine: 1, Comment: true}, {StartLine: 1, EndLine: 2}, {StartLine: 99, Comment: true}}
		a.ranges = chainOf(4)
		a.chains = [][]api.Range{a.ranges[:3], nil, a.ranges[1:2], a.ranges}
		return a
	}
	a := made()
	for range 2 {
		wantMade(t, Full("1", a.data[:3]), fullMade("1", []int{3, 2, 1}))
		wantMade(t, Delta("1", a.edits[:2]), deltaMade("1", made().edits[:2]))
		wantMade(t, Folds(a.folds[:2]), foldsMade(made().folds[:2]))
		wantMade(t, Chains(a.chains[:3]), chainsMade(made().chains[:3]))
	}
	if !reflect.DeepEqual(a, made()) {
		t.Errorf("the arguments became %v", a)
	}
}

// TestResultsStay changes the arguments after the calls.
func TestResultsStay(t *testing.T) { // P0.4
	data, chain := []int{1, 2}, chainOf(2)
	edits, folds := []api.Splice{{Start: 1, Data: data}}, []api.Fold{{EndLine: 1}}
	results := []api.Value{Full("1", data), Delta("2", edits), Folds(folds), Chains([][]api.Range{chain})}
	data[0], edits[0].Start, folds[0].Comment, chain[1] = 9, 9, true, api.Range{}
	for i, want := range []string{
		`{"resultId":"1","data":[1,2]}`, `{"resultId":"2","edits":[{"start":1,"deleteCount":0,"data":[1,2]}]}`, `[{"startLine":0,"endLine":1}]`,
		`[{"range":{"start":{"line":0,"character":1},"end":{"line":2,"character":3}},"parent":{"range":{"start":{"line":4,"character":5},"end":{"line":6,"character":7}}}}]`,
	} {
		wantWritten(t, results[i], want)
	}
}
