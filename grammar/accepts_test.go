package grammar

import (
	"bytes"
	"math/rand/v2"
	"slices"
	"sync"
	"testing"

	"glossator/api"
)

// told is what the program tells of its rules: they, and the one chosen for each part at each kind.
type told struct {
	rules  []Rule
	choose [256][256]int
}

var theProgram = sync.OnceValue(func() *told {
	p := &told{rules: Rules()}
	for part := range 256 {
		for kind := range 256 {
			p.choose[part][kind] = Choose(uint8(part), uint8(kind))
		}
	}
	return p
})

// predicted parses as P14.6 says: in a list of symbols that begins with NkFile, the leftmost part is replaced by the rule chosen.
func predicted(kinds []uint8) bool {
	p := theProgram()
	form := []uint8{api.NkFile}
	for len(form) > 0 {
		current := uint8(0)
		if len(kinds) > 0 {
			current = kinds[0]
		}
		if form[0] > api.TkOr {
			n := p.choose[form[0]][current]
			if n < 0 {
				return false
			}
			form = slices.Concat(p.rules[n].Right, form[1:])
			continue
		}
		if len(kinds) == 0 || form[0] != current {
			return false
		}
		form, kinds = form[1:], kinds[1:]
	}
	return len(kinds) == 0
}

// wantRow holds a row against the search for a derivation, and the predictive parser with it; it tells what the search found.
func wantRow(t *testing.T, g *reference, row []uint8) bool {
	t.Helper()
	want := g.derives(api.NkFile, row)
	if got := Accepts(row); got != want {
		t.Fatalf("Accepts(%v): %v", row, got)
	}
	if got := predicted(row); got != want {
		t.Fatalf("the parser by Choose, of %v: %v", row, got)
	}
	return want
}

func TestSingleKinds(t *testing.T) { // P14.5
	g := theChapter()
	wantRow(t, g, nil)
	for kind := range 256 {
		if wantRow(t, g, []uint8{uint8(kind)}) {
			t.Errorf("%d alone is accepted", kind)
		}
	}
}

// TestRows asks for all rows of some kinds: of twelve, and longer ones of fewer.
func TestRows(t *testing.T) { // P14.5, P14.6
	g := theChapter()
	for _, c := range []struct {
		of   []uint8
		many int
		want int // how many are accepted
	}{
		{[]uint8{api.TkName, api.TkInt, api.TkSemi, api.TkLeft, api.TkRight, api.TkBegin, api.TkEnd, api.TkMinus, api.TkAssign, api.TkReturn, api.TkIf, api.TkElse}, 4, 47},
		{[]uint8{api.TkName, api.TkSemi, api.TkLeft, api.TkRight, api.TkMinus, api.TkComma}, 6, 47},
		{[]uint8{api.TkName, api.TkSemi, api.TkLess, api.TkAssign, api.TkTimes, api.TkNot}, 6, 45},
		{[]uint8{api.TkIf, api.TkTrue, api.TkBegin, api.TkEnd, api.TkElse}, 7, 15},
		{[]uint8{api.TkFn, api.TkName, api.TkLeft, api.TkRight, api.TkBegin, api.TkEnd}, 6, 10},
		{[]uint8{api.TkLet, api.TkName, api.TkAssign, api.TkSemi}, 8, 15},
		{[]uint8{api.TkBegin, api.TkEnd}, 12, 197},
	} {
		accepted := 0
		eachRow(c.of, c.many, func(row []uint8) {
			if wantRow(t, g, row) {
				accepted++
			}
		})
		if accepted != c.want {
			t.Errorf("%v: %d are accepted, not %d", c.of, accepted, c.want)
		}
	}
}

func TestTexts(t *testing.T) { // P14.5, P14.6
	g := theChapter()
	for _, text := range rightTexts() {
		if !wantRow(t, g, row(t, text)) {
			t.Errorf("%q isn't accepted", text)
		}
	}
	for _, text := range wrongTexts() {
		if wantRow(t, g, row(t, text)) {
			t.Errorf("%q is accepted", text)
		}
	}
}

// TestNearly asks for rows that differ in one place from an accepted one; by each of the 256 numbers, so also by one that is no token's kind.
func TestNearly(t *testing.T) { // P14.5
	g := theChapter()
	for _, text := range rightTexts() {
		nearly(row(t, text), func(row []uint8) {
			if got, want := Accepts(row), g.derives(api.NkFile, row); got != want {
				t.Fatalf("%v: %v", row, got)
			}
		})
	}
}

// TestNoKinds puts numbers that are no token's, and trivia, at each place of accepted rows.
func TestNoKinds(t *testing.T) { // P14.5
	none := []uint8{0, api.TkBlank, api.TkLine, api.TkBlock, api.TkOpen, api.TkOdd, api.TkBroken, 18, 19}
	for kind := 41; kind < 256; kind++ {
		none = append(none, uint8(kind))
	}
	for _, text := range rightTexts() {
		kinds := row(t, text)
		for at := range len(kinds) + 1 {
			for _, kind := range none {
				if row := slices.Insert(slices.Clone(kinds), at, kind); Accepts(row) {
					t.Fatalf("%v is accepted", row)
				}
			}
		}
	}
	for part := 51; part < 126; part++ { // a part is no kind, be it the one that is next
		if Accepts([]uint8{uint8(part)}) || Accepts([]uint8{uint8(part), api.TkSemi}) {
			t.Errorf("%d is accepted", part)
		}
	}
}

// TestDerived asks for rows made by rules, for two of them one behind the other, and for rows near them.
func TestDerived(t *testing.T) { // P14.5 to P14.7
	g := theChapter()
	random := rand.New(rand.NewPCG(14, 7))
	var before []uint8
	for i := range 6000 {
		kinds := file(g, random, i%400)
		if !Accepts(kinds) || !predicted(kinds) {
			t.Fatalf("%v is derived, but not accepted", kinds)
		}
		if both := slices.Concat(before, kinds); !Accepts(both) || !predicted(both) {
			t.Fatalf("%v and %v, one behind the other, aren't accepted", before, kinds)
		}
		before = kinds
		if i%20 == 0 && len(kinds) < 30 {
			nearly(kinds, func(row []uint8) {
				if got, want := Accepts(row), g.derives(api.NkFile, row); got != want {
					t.Fatalf("%v: %v", row, got)
				}
			})
		}
	}
}

// TestEachRule asks that each rule is chosen somewhere.
func TestEachRule(t *testing.T) { // P14.4
	used := map[int]bool{}
	for part := range 256 {
		for kind := range 256 {
			used[Choose(uint8(part), uint8(kind))] = true
		}
	}
	for n := range 74 {
		if !used[n] {
			t.Errorf("rule %d is never chosen", n)
		}
	}
}

// TestDeep has brackets, blocks, calls, signs and ifs within one another, and one too many or too few of them.
func TestDeep(t *testing.T) { // P14.5, P0.1
	const deep = 1 << 16
	name, semi := []uint8{api.TkName}, []uint8{api.TkSemi}
	for _, c := range []struct{ open, inner, close []uint8 }{
		{[]uint8{api.TkLeft}, name, []uint8{api.TkRight}},
		{[]uint8{api.TkName, api.TkLeft}, nil, []uint8{api.TkRight}},
		{[]uint8{api.TkMinus, api.TkLeft}, name, []uint8{api.TkRight}},
	} {
		for _, more := range []int{-1, 0, 1} {
			kinds := slices.Concat(many(deep, c.open...), c.inner, many(deep+more, c.close...), semi)
			if Accepts(kinds) != (more == 0) {
				t.Errorf("%v: %d of %v: %v", c.open, deep+more, c.close, Accepts(kinds))
			}
		}
	}
	for _, more := range []int{-1, 0, 1} {
		if kinds := slices.Concat(many(deep, api.TkBegin), many(deep+more, api.TkEnd)); Accepts(kinds) != (more == 0) {
			t.Errorf("%d blocks, %d ends: %v", deep, deep+more, Accepts(kinds))
		}
	}
	if !Accepts(slices.Concat(many(deep, api.TkMinus, api.TkNot), name, semi)) || Accepts(slices.Concat(many(deep, api.TkMinus, api.TkNot), semi)) {
		t.Error("signs")
	}
	ifs := many(deep, api.TkIf, api.TkName, api.TkBegin, api.TkEnd, api.TkElse)
	if Accepts(ifs) || !Accepts(slices.Concat(ifs, []uint8{api.TkBegin, api.TkEnd})) || Accepts(slices.Concat(ifs, []uint8{api.TkName, api.TkSemi})) {
		t.Error("ifs")
	}
}

// TestLong has a million kinds in a row.
func TestLong(t *testing.T) { // P14.5, P0.1
	sum := slices.Concat(many(1<<19, api.TkName, api.TkPlus), []uint8{api.TkName, api.TkSemi})
	if !Accepts(sum) || Accepts(sum[:len(sum)-1]) || Accepts(sum[1:]) {
		t.Error("a long sum")
	}
	list := many(1<<19, api.TkName, api.TkSemi)
	if !Accepts(list) || Accepts(list[:len(list)-1]) || Accepts(append(list, api.TkElse)) {
		t.Error("many statements")
	}
}

// TestKindsUntouched has Accepts pass over a slice with memory behind its length.
func TestKindsUntouched(t *testing.T) { // P0.4
	for _, text := range append(rightTexts(), wrongTexts()...) {
		kinds := append(row(t, text), api.TkSemi, api.TkEnd, 0, 200)
		was := slices.Clone(kinds)
		for n := range len(kinds) + 1 {
			Accepts(kinds[:n])
			if !bytes.Equal(kinds, was) {
				t.Fatalf("%v has become %v", was, kinds)
			}
		}
	}
}

// TestAgreement asks what P14.8 says of the rules and of DOC.md.
func TestAgreement(t *testing.T) { // P14.8
	g := theChapter()
	for k := range 256 {
		kind := uint8(k)
		if is := Statement(kind) != 0; Begins(102, kind) != is || g.begins([]uint8{102}, kind) != is {
			t.Errorf("a statement that begins with %d: %v", kind, is)
		}
		if is := Statement(kind) == api.NkDo; Begins(api.NkExpr, kind) != is || g.begins([]uint8{api.NkExpr}, kind) != is {
			t.Errorf("an expression that begins with %d: %v", kind, is)
		}
		for n := 1; n <= 5; n++ {
			if is := Level(kind) == n; Begins(uint8(120+n), kind) != is || g.begins([]uint8{uint8(120 + n)}, kind) != is {
				t.Errorf("an operator %d of level %d: %v", kind, n, is)
			}
		}
		// The rule chosen for a statement is the one of its kind.
		if n := Choose(102, kind); n >= 0 && Rules()[n].Right[0] != Statement(kind) || n < 0 && Statement(kind) != 0 {
			t.Errorf("a statement by %d: rule %d, Statement %d", kind, n, Statement(kind))
		}
	}
}
