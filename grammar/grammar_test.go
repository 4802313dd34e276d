package grammar

import (
	"bytes"
	"slices"
	"testing"

	"glossator/api"
)

// expression are the kinds that begin one.
func expression() []uint8 {
	return []uint8{api.TkName, api.TkInt, api.TkText, api.TkTrue, api.TkFalse, api.TkLeft, api.TkMinus, api.TkNot}
}

func wantKinds(t *testing.T, what string, part uint8, got []uint8, want ...uint8) {
	t.Helper()
	if !slices.Equal(got, want) {
		t.Errorf("%s of %d: %v, not %v", what, part, got, want)
	}
}

func TestExamples(t *testing.T) { // P14.1, P14.3 to P14.5
	for kind, want := range map[uint8]uint8{api.TkLet: api.NkLet, api.TkBegin: api.NkBlock, api.TkMinus: api.NkDo, api.TkElse: 0, api.TkSemi: 0} {
		if Statement(kind) != want {
			t.Errorf("Statement(%d): %d", kind, Statement(kind))
		}
	}
	if Level(api.TkOr) != 1 || Level(api.TkAtLeast) != 3 || Level(api.TkRest) != 5 || Level(api.TkNot) != 0 {
		t.Error("Level")
	}
	wantKinds(t, "First", api.NkParams, First(api.NkParams), api.TkLeft)
	wantKinds(t, "First", api.NkPlain, First(api.NkPlain), api.TkInt, api.TkText, api.TkTrue, api.TkFalse)
	wantKinds(t, "First", 107, First(107), expression()...)
	if !Empty(107) || Empty(api.NkLet) {
		t.Error("Empty")
	}
	wantKinds(t, "Follow", api.NkFile, Follow(api.NkFile), 0)
	wantKinds(t, "Follow", 101, Follow(101), 0, api.TkEnd)
	wantKinds(t, "Follow", 105, Follow(105), 0, api.TkName, api.TkInt, api.TkText, api.TkLet, api.TkFn, api.TkIf, api.TkWhile, api.TkReturn, api.TkTrue, api.TkFalse, api.TkLeft, api.TkBegin, api.TkEnd, api.TkMinus, api.TkNot)
	if Choose(101, api.TkEnd) != 2 || Choose(101, api.TkLet) != 1 || Choose(101, api.TkElse) != -1 || Choose(102, api.TkNot) != 9 {
		t.Error("Choose")
	}
	for _, kinds := range [][]uint8{nil, {}, {api.TkLet, api.TkName, api.TkAssign, api.TkInt, api.TkSemi}, {api.TkName, api.TkLeft, api.TkRight, api.TkSemi}} {
		if !Accepts(kinds) {
			t.Errorf("%v isn't accepted", kinds)
		}
	}
	for _, kinds := range [][]uint8{{api.TkName}, {api.TkBegin, api.TkEnd, api.TkElse}} {
		if Accepts(kinds) {
			t.Errorf("%v is accepted", kinds)
		}
	}
}

// statementOf and levelOf are DOC.md's words.
func statementOf() map[uint8]uint8 {
	of := map[uint8]uint8{api.TkLet: api.NkLet, api.TkFn: api.NkFn, api.TkIf: api.NkIf, api.TkWhile: api.NkWhile, api.TkReturn: api.NkReturn, api.TkBegin: api.NkBlock}
	for _, kind := range expression() {
		of[kind] = api.NkDo
	}
	return of
}

func levelOf() map[uint8]int {
	return map[uint8]int{
		api.TkOr: 1, api.TkAnd: 2,
		api.TkEqual: 3, api.TkUnlike: 3, api.TkLess: 3, api.TkAtMost: 3, api.TkMore: 3, api.TkAtLeast: 3,
		api.TkPlus: 4, api.TkMinus: 4, api.TkTimes: 5, api.TkOver: 5, api.TkRest: 5,
	}
}

func TestStatementAndLevel(t *testing.T) { // P14.1
	for kind := range 256 {
		if got, want := Statement(uint8(kind)), statementOf()[uint8(kind)]; got != want {
			t.Errorf("Statement(%d): %d, not %d", kind, got, want)
		}
		if got, want := Level(uint8(kind)), levelOf()[uint8(kind)]; got != want {
			t.Errorf("Level(%d): %d, not %d", kind, got, want)
		}
	}
}

func sameRules(a, b []Rule) bool {
	return slices.EqualFunc(a, b, func(x, y Rule) bool { return x.Part == y.Part && bytes.Equal(x.Right, y.Right) })
}

func TestRules(t *testing.T) { // P14.2
	want := theChapter().rules
	if len(want) != 74 || !sameRules(Rules(), want) {
		t.Errorf("%d rules: %v", len(want), Rules())
	}
}

// TestOwnRules overwrites all that Rules tells, up to its capacity.
func TestOwnRules(t *testing.T) { // P14.2, P0.4
	want := theChapter().rules
	l := Rules()
	for n, r := range l {
		all := r.Right[:cap(r.Right)]
		for i := range all {
			all[i] = uint8(n)
		}
	}
	for n, r := range l {
		for _, symbol := range r.Right[:cap(r.Right)] {
			if symbol != uint8(n) {
				t.Fatalf("rule %d shares memory with rule %d", n, symbol)
			}
		}
	}
	all := l[:cap(l)]
	for n := range all {
		all[n] = Rule{250, []uint8{251}}
	}
	if !sameRules(Rules(), want) {
		t.Errorf("the next list: %v", Rules())
	}
	wantAllSets(t)
}

// wantAllSets asks for FIRST, FOLLOW, the empty sequence and the chosen rules of each number as a part.
func wantAllSets(t *testing.T) {
	t.Helper()
	g := theChapter()
	for n := range 256 {
		part := uint8(n)
		first, follow := g.first[part], g.follow[part]
		wantKinds(t, "First", part, First(part), first...)
		wantKinds(t, "Follow", part, Follow(part), follow...)
		if Empty(part) != g.empty(part) {
			t.Errorf("Empty(%d): %v", part, Empty(part))
		}
		for k := range 256 {
			kind := uint8(k)
			if Begins(part, kind) != slices.Contains(first, kind) {
				t.Errorf("Begins(%d, %d): %v", part, kind, Begins(part, kind))
			}
			want := slices.IndexFunc(g.rules, func(r Rule) bool { return r.Part == part && g.fits(r, kind) })
			if got := Choose(part, kind); got != want {
				t.Errorf("Choose(%d, %d): %d, not %d", part, kind, got, want)
			}
		}
	}
}

func TestSets(t *testing.T) { wantAllSets(t) } // P14.3, P14.4

// TestReference asks the reference for what can be seen without it.
func TestReference(t *testing.T) {
	g := theChapter()
	if len(g.order) != 38 || len(g.number) != 38 || len(g.soonest) != 38 {
		t.Errorf("%d parts", len(g.order))
	}
	for _, part := range g.order {
		if nullable := slices.Contains([]uint8{51, 101, 103, 104, 105, 107, 108, 109, 110, 118, 121, 122, 123, 124, 125}, part); g.empty(part) != nullable {
			t.Errorf("empty(%d): %v", part, g.empty(part))
		}
	}
	wantKinds(t, "first", 102, g.first[102], 6, 7, 8, 10, 11, 12, 14, 15, 16, 17, 20, 22, 34, 38)
	wantKinds(t, "follow", 104, g.follow[104], api.TkRight)
	wantKinds(t, "follow", api.NkExpr, g.follow[api.NkExpr], api.TkRight, api.TkBegin, api.TkComma, api.TkSemi, api.TkAssign)
	wantKinds(t, "follow", 118, g.follow[118], 21, 22, 24, 25, 26, 27, 28, 29, 30, 31, 32, 33, 34, 35, 36, 37, 39, 40)
}

// TestNoParts asks for numbers that are not on the left of a rule, among them kinds of tokens and of nodes.
func TestNoParts(t *testing.T) { // P14.3, P14.4
	for _, part := range []uint8{0, 1, api.TkName, api.TkLet, api.TkOr, 41, 49, api.NkMissing, api.NkBinary, api.NkUnary, api.NkCall, api.NkError, 69, 100, 120, 126, 127, 128, 200, 255} {
		if len(First(part)) > 0 || len(Follow(part)) > 0 || Empty(part) {
			t.Errorf("%d: %v, %v, %v", part, First(part), Follow(part), Empty(part))
		}
		for kind := range 256 {
			if Begins(part, uint8(kind)) || Choose(part, uint8(kind)) != -1 {
				t.Errorf("%d at %d: %v, %d", part, kind, Begins(part, uint8(kind)), Choose(part, uint8(kind)))
			}
		}
	}
}

// TestAscending asks that no kind comes twice, and that only FOLLOW has a 0.
func TestAscending(t *testing.T) { // P14.3
	for part := range 256 {
		for _, l := range [][]uint8{append([]uint8{0}, First(uint8(part))...), Follow(uint8(part))} {
			for i := 1; i < len(l); i++ {
				if l[i-1] >= l[i] || l[i] > api.TkOr {
					t.Errorf("%d: %v", part, l)
				}
			}
		}
	}
}

// TestAtTheEnd asks which parts may stand at the end of a file.
func TestAtTheEnd(t *testing.T) { // P14.3
	last := []uint8{api.NkFile, 101, 102, api.NkLet, api.NkFn, api.NkIf, 105, 106, api.NkWhile, api.NkReturn, api.NkBlock, api.NkDo}
	for part := range 256 {
		if slices.Contains(Follow(uint8(part)), 0) != slices.Contains(last, uint8(part)) {
			t.Errorf("Follow(%d): %v", part, Follow(uint8(part)))
		}
	}
}

// TestOwnSets overwrites what First and Follow tell, up to its capacity.
func TestOwnSets(t *testing.T) { // P14.3, P0.4
	for part := range 256 {
		for _, l := range [][]uint8{First(uint8(part)), Follow(uint8(part))} {
			l = l[:cap(l)]
			for i := range l {
				l[i] = 77
			}
		}
	}
	wantAllSets(t)
}

func TestChooseByHand(t *testing.T) { // P14.4
	for _, c := range []struct {
		part, kind uint8
		rule       int
	}{
		{api.NkFile, 0, 0}, {api.NkFile, api.TkLet, 0}, {api.NkFile, api.TkEnd, -1}, {101, 0, 2}, {102, 0, -1}, {102, api.TkLet, 3}, {102, api.TkBegin, 8},
		{api.NkLet, api.TkLet, 10}, {api.NkLet, api.TkName, -1}, {103, api.TkName, 13}, {103, api.TkRight, 14}, {103, api.TkComma, -1}, {104, api.TkComma, 15}, {104, api.TkName, -1},
		{105, api.TkElse, 18}, {105, 0, 19}, {105, api.TkEnd, 19}, {105, api.TkName, 19}, {105, api.TkSemi, -1}, {106, api.TkIf, 20}, {106, api.TkBegin, 21}, {106, api.TkName, -1},
		{107, api.TkInt, 24}, {107, api.TkSemi, 25}, {107, 0, -1}, {108, api.TkAssign, 28}, {108, api.TkSemi, 29}, {109, api.TkRight, 62}, {110, api.TkRight, 64},
		{121, api.TkOr, 32}, {121, api.TkSemi, 33}, {121, api.TkAnd, -1}, {122, api.TkOr, 36}, {123, api.TkAtLeast, 43}, {124, api.TkMinus, 47}, {125, api.TkMinus, 53}, {125, api.TkRest, 52},
		{116, api.TkMinus, 54}, {116, api.TkNot, 55}, {116, api.TkLeft, 56}, {118, api.TkLeft, 58}, {118, api.TkRight, 59}, {118, 0, -1}, {119, api.TkName, 65}, {119, api.TkFalse, 66}, {119, api.TkLeft, 67},
		{api.NkPlain, api.TkTrue, 71}, {api.NkGroup, api.TkLeft, 73}, {api.NkExpr, api.TkEnd, -1}, {101, 41, -1}, {101, 101, -1}, {101, 255, -1}, {101, api.TkBlank, -1}, {101, api.NkLet, -1},
	} {
		if got := Choose(c.part, c.kind); got != c.rule {
			t.Errorf("Choose(%d, %d): %d, not %d", c.part, c.kind, got, c.rule)
		}
	}
}

func TestClash(t *testing.T) { // P14.4
	g := theChapter()
	for _, part := range g.order {
		for kind := range 256 {
			fit := 0
			for _, right := range g.rights[part] {
				if g.fits(Rule{part, right}, uint8(kind)) {
					fit++
				}
			}
			if fit > 1 {
				t.Errorf("%d rules of %d fit at %d", fit, part, kind)
			}
		}
	}
	if Clash() {
		t.Error("Clash: true")
	}
}

// fitted are the rules with what each of them fits.
func fitted(rules []rule) ([]rule, []set) {
	first := firsts(rules)
	return rules, fitting(rules, first, follows(rules, first))
}

// TestClashElsewhere asks for rules that do clash: at a kind, at one that follows, at the end.
func TestClashElsewhere(t *testing.T) { // P14.4
	for _, c := range []struct {
		more rule
		want bool
	}{
		{rule{api.NkPlain, right{api.TkOdd}}, false},
		{rule{api.NkPlain, right{api.TkInt}}, true},
		{rule{api.NkPlain, right{api.TkFalse, api.TkSemi}}, true},
		{rule{103, right{api.TkComma}}, false},
		{rule{103, right{api.TkRight}}, true},
		{rule{101, right{}}, true},
		{rule{api.NkFile, right{}}, true},
		{rule{102, right{}}, true},
		{rule{126, right{}}, false},
	} {
		if got := clash(fitted(append(all(), c.more))); got != c.want {
			t.Errorf("with %v: %v", c.more, got)
		}
	}
}

// TestFirstOfTwo has two rules fit: the first one is chosen.
func TestFirstOfTwo(t *testing.T) { // P14.4
	rules, fits := fitted(append([]rule{{api.NkPlain, right{api.TkInt, api.TkInt}}}, all()...))
	if n, other := choose(rules, fits, api.NkPlain, api.TkInt), choose(rules, fits, api.NkPlain, api.TkText); n != 0 || other != 71 {
		t.Errorf("%d, %d", n, other)
	}
}
