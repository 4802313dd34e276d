package results

import (
	"math"
	"strings"

	"glossator/api"
)

// ids are result IDs: empty, ordinary, of what is escaped, long, and no valid strings.
func ids() []string {
	return []string{
		"", "1", "27", "a b", "null", "\"\\/", "\b\t\n\f\r\x00\x1f\x7f", "é€\U0001F600\ufffd\ufeff", "\u2028<>&", strings.Repeat("x", 5000),
		"\xff", "1\xff", "\xff\xfe", "\xc3", "a\xe2\x82b", "\xed\xa0\x80", "\xf4\x90\x80\x80", "\xc0\x80", strings.Repeat("\xff", 300),
	}
}

// ints are those at the edges, and some others.
func ints() []int {
	return []int{0, 1, -1, 2, 5, 9, 10, -10, 100, 12345, math.MaxInt32, math.MaxInt32 + 1, math.MinInt32, math.MinInt32 - 1, math.MaxInt - 1, math.MaxInt, math.MinInt + 1, math.MinInt}
}

// datas are lists of numbers: nil, empty, of one, of two alike, of all edges, of many.
func datas() [][]int {
	l := [][]int{nil, {}, {0, 4, 3, 0, 0}, {7, 7}, ints(), make([]int, 5), make([]int, 3000)}
	for i := range l[len(l)-1] {
		l[len(l)-1][i] = i * i
	}
	for _, n := range ints() {
		l = append(l, []int{n}, []int{n, 1}, []int{1, n})
	}
	return l
}

// splices are lists of splices, with each number at each place of one.
func splices() [][]api.Splice {
	l := [][]api.Splice{
		nil, {}, {{}}, {{Start: 5, Data: []int{1, 2}}}, {{Start: 7, Delete: 5, Data: []int{2, 5, 1, 0, 3}}},
		{{Start: 1, Delete: 2}, {Start: 3, Data: []int{}}, {Start: 9, Delete: 8, Data: []int{7, 6}}}, {{Start: 4}, {Start: 4}, {Start: 4}},
		{{Start: 9, Delete: 1, Data: []int{1}}, {Start: 2, Delete: 1, Data: []int{2}}}, // valid for no list
	}
	var many []api.Splice
	for i, n := range ints() {
		l = append(l, []api.Splice{{Start: n}}, []api.Splice{{Delete: n}}, []api.Splice{{Data: []int{n}}}, []api.Splice{{Start: n, Delete: -n, Data: []int{n, i, n}}})
		many = append(many, api.Splice{Start: n, Delete: i, Data: ints()[:i]})
	}
	for i := range 500 {
		many = append(many, api.Splice{Start: 3 * i, Delete: 3*i + 1, Data: make([]int, i%4)})
	}
	return append(l, many)
}

// folds are lists of folds, with each number at each place of one.
func folds() [][]api.Fold {
	l := [][]api.Fold{nil, {}, {{}}, {{Comment: true}}, {{StartLine: 1, EndLine: 3}, {StartLine: 4, EndLine: 5, Comment: true}}, {{StartLine: 4, EndLine: 5, Comment: true}, {StartLine: 1, EndLine: 3}}, {{StartLine: 8, EndLine: 2}, {StartLine: 8, EndLine: 2}}}
	var many []api.Fold
	for i, n := range ints() {
		for _, c := range []bool{false, true} {
			l = append(l, []api.Fold{{StartLine: n, Comment: c}}, []api.Fold{{EndLine: n, Comment: c}}, []api.Fold{{StartLine: n, EndLine: n, Comment: c}})
			many = append(many, api.Fold{StartLine: n, EndLine: i, Comment: c})
		}
	}
	for i := range 2000 {
		many = append(many, api.Fold{StartLine: i, EndLine: 2*i + 1, Comment: i%3 == 1})
	}
	return append(l, many)
}

// chainOf is a chain of so many ranges that all differ.
func chainOf(n int) []api.Range {
	l := make([]api.Range, n)
	for i := range l {
		l[i] = api.Range{Start: api.Pos{Line: 4 * i, Char: 4*i + 1}, End: api.Pos{Line: 4*i + 2, Char: 4*i + 3}}
	}
	return l
}

// chainLists are lists of chains of all lengths, with each number at each place of a range.
func chainLists() [][][]api.Range {
	l := [][][]api.Range{
		nil, {}, {nil}, {{}}, {{}, nil, {}}, {{{}}}, {{{}, {}}}, {chainOf(1), nil, chainOf(2), chainOf(3)}, {nil, chainOf(5)}, {chainOf(61), {}, chainOf(61)}, {chainOf(62)}, {chainOf(2), chainOf(62), chainOf(1)}, {chainOf(400), chainOf(3)},
		{{{Start: api.Pos{Char: 1}, End: api.Pos{Char: 2}}, {End: api.Pos{Line: 1}}}, {}},
		{{{Start: api.Pos{Line: 9, Char: 9}, End: api.Pos{Line: 8, Char: 10}}, {Start: api.Pos{Char: 3}, End: api.Pos{Char: 2}}}}, // their ends lie before their starts
	}
	for n := range 70 {
		l = append(l, [][]api.Range{chainOf(n)})
	}
	for _, n := range ints() {
		for _, r := range []api.Range{{Start: api.Pos{Line: n}}, {Start: api.Pos{Char: n}}, {End: api.Pos{Line: n}}, {End: api.Pos{Char: n}}} {
			l = append(l, [][]api.Range{{r}}, [][]api.Range{{r, {}}, {{}, r}, {{}, r, {}}})
		}
	}
	many := make([][]api.Range, 300)
	for i := range many {
		many[i] = chainOf(i % 7)
	}
	return append(l, many)
}
