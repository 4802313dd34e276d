package lex

import (
	"slices"
	"strings"
	"testing"

	"glossator/api"
)

// chapter are the chapter's examples: a text, and its tokens' kinds, widths and Looks.
func chapter() []struct {
	s string
	l []api.Token
} {
	return []struct {
		s string
		l []api.Token
	}{
		{"let x1=-2;", []api.Token{{Kind: api.TkLet, Width: 3, Look: 1}, {Kind: api.TkBlank, Width: 1, Look: 1}, {Kind: api.TkName, Width: 2, Look: 1}, {Kind: api.TkAssign, Width: 1, Look: 1}, {Kind: api.TkMinus, Width: 1}, {Kind: api.TkInt, Width: 1, Look: 1}, {Kind: api.TkSemi, Width: 1}}},
		{"a//b\n/*c", []api.Token{{Kind: api.TkName, Width: 1, Look: 1}, {Kind: api.TkLine, Width: 3, Look: 1}, {Kind: api.TkBlank, Width: 1, Look: 1}, {Kind: api.TkOpen, Width: 3, Look: 1}}},
		{"\"a\\\"b\"c\"d", []api.Token{{Kind: api.TkText, Width: 6}, {Kind: api.TkName, Width: 1, Look: 1}, {Kind: api.TkBroken, Width: 2, Look: 1}}},
		{"&&&|||=€", []api.Token{{Kind: api.TkAnd, Width: 2}, {Kind: api.TkOdd, Width: 1, Look: 1}, {Kind: api.TkOr, Width: 2}, {Kind: api.TkOdd, Width: 1, Look: 1}, {Kind: api.TkAssign, Width: 1, Look: 1}, {Kind: api.TkOdd, Width: 3}}},
		{"", nil},
	}
}

func wantTokens(t *testing.T, s string, want []api.Token) {
	t.Helper()
	if l := All(s); !slices.Equal(l, want) {
		t.Fatalf("All(%.80q): %.400v, not %.400v", s, l, want)
	}
	if !Right(s, want) {
		t.Fatalf("%.80q: the right tokens %.400v are not Right", s, want)
	}
}

func wantText(t *testing.T, s string) {
	t.Helper()
	wantTokens(t, s, wantAll(s))
}

func TestExamples(t *testing.T) { // P12.1 to P12.3
	for _, x := range chapter() {
		wantTokens(t, x.s, x.l)
		wantText(t, x.s)
	}
	l := All(chapter()[0].s)
	if At(l, 3) != 1 || At(l, 9) != 6 || At(l, 10) != -1 || Next(l, 1) != 2 || Next(l, 7) != 7 {
		t.Errorf("At: %d %d %d; Next: %d %d", At(l, 3), At(l, 9), At(l, 10), Next(l, 1), Next(l, 7))
	}
	want := []api.Span{{From: 0, To: 3}, {From: 3, To: 4}, {From: 4, To: 6}, {From: 6, To: 7}, {From: 7, To: 8}, {From: 8, To: 9}, {From: 9, To: 10}}
	if !slices.Equal(Spans(l), want) {
		t.Errorf("Spans: %v", Spans(l))
	}
}

func TestEmpty(t *testing.T) { // P12.1 to P12.3
	for _, l := range [][]api.Token{All(""), nil, {}} {
		if len(l) != 0 || !Right("", l) || Right("a", l) || Right(" ", l) || Right("\xff", l) || len(Spans(l)) != 0 {
			t.Errorf("the empty text: %v", l)
		}
		for _, n := range append(far(), -1, 0, 1) {
			if At(l, n) != -1 || Next(l, n) != 0 {
				t.Errorf("of no tokens: At(%d): %d, Next: %d", n, At(l, n), Next(l, n))
			}
		}
	}
}

// TestByHand has whole texts, whose tokens are written out here.
func TestByHand(t *testing.T) { // P12.1
	one := func(kind uint8, width, look int) api.Token {
		return api.Token{Kind: kind, Width: width, Look: look}
	}
	name, blank := one(api.TkName, 1, 1), one(api.TkBlank, 1, 1)
	for s, want := range map[string][]api.Token{
		"/*":               {one(api.TkOpen, 2, 1)},
		"/*/":              {one(api.TkOpen, 3, 1)},
		"/*/ a":            {one(api.TkOpen, 5, 1)},
		"/**/a":            {one(api.TkBlock, 4, 0), name},
		"/*/*/a":           {one(api.TkBlock, 5, 0), name},
		"/*\n*/\n":         {one(api.TkBlock, 5, 0), blank},
		"a/*\r\nb":         {name, one(api.TkOpen, 5, 1)},
		"/**/*/":           {one(api.TkBlock, 4, 0), one(api.TkTimes, 1, 0), one(api.TkOver, 1, 1)},
		"//":               {one(api.TkLine, 2, 1)},
		"//\r\na":          {one(api.TkLine, 2, 1), one(api.TkBlank, 2, 1), name},
		"//a\\\na":         {one(api.TkLine, 4, 1), blank, name},
		"///*\ra":          {one(api.TkLine, 4, 1), blank, name},
		"/ /a":             {one(api.TkOver, 1, 1), blank, one(api.TkOver, 1, 1), name},
		"\"":               {one(api.TkBroken, 1, 1)},
		"\"a\nb\"":         {one(api.TkBroken, 2, 1), blank, name, one(api.TkBroken, 1, 1)},
		"\"a\r\"\"":        {one(api.TkBroken, 2, 1), blank, one(api.TkText, 2, 0)},
		"\"\\":             {one(api.TkBroken, 2, 1)},
		"\"\\\na":          {one(api.TkBroken, 2, 1), blank, name},
		"\"\\\r\"":         {one(api.TkBroken, 2, 1), blank, one(api.TkBroken, 1, 1)},
		"\"\\\\\na":        {one(api.TkBroken, 3, 1), blank, name},
		"\"\\\\\"a":        {one(api.TkText, 4, 0), name},
		"\"\\\"":           {one(api.TkBroken, 3, 1)},
		"\\\na":            {one(api.TkOdd, 1, 0), blank, name},
		"\\":               {one(api.TkOdd, 1, 0)},
		"\xff":             {one(api.TkOdd, 1, 1)},
		"\xff\xfe":         {one(api.TkOdd, 1, 2), one(api.TkOdd, 1, 1)},
		"\xff\xff\xff\xc3": {one(api.TkOdd, 1, 3), one(api.TkOdd, 1, 3), one(api.TkOdd, 1, 2), one(api.TkOdd, 1, 1)},
		"a\xc3b":           {name, one(api.TkOdd, 1, 2), name},
		"\xe2\x82€a":       {one(api.TkOdd, 1, 3), one(api.TkOdd, 1, 3), one(api.TkOdd, 3, 0), name},
		"//\xff\xc3\na":    {one(api.TkLine, 4, 1), blank, name},
		"/*\xe2\x82*/a":    {one(api.TkBlock, 6, 0), name},
		"/*\xff":           {one(api.TkOpen, 3, 1)},
		"\"\xff\\\xc3\"a":  {one(api.TkText, 5, 0), name},
		"\"\xf0\x9f\na":    {one(api.TkBroken, 3, 1), blank, name},
		"let lets":         {one(api.TkLet, 3, 1), blank, one(api.TkName, 4, 1)},
		"0a1":              {one(api.TkInt, 1, 1), one(api.TkName, 2, 1)},
		" \t\r\na \n":      {one(api.TkBlank, 4, 1), name, one(api.TkBlank, 2, 1)},
		"<==>=!==":         {one(api.TkAtMost, 2, 0), one(api.TkAssign, 1, 1), one(api.TkAtLeast, 2, 0), one(api.TkUnlike, 2, 0), one(api.TkAssign, 1, 1)},
		"a\vb\x00":         {name, one(api.TkOdd, 1, 0), name, one(api.TkOdd, 1, 0)},
	} {
		wantTokens(t, s, want)
		wantText(t, s)
	}
}

func TestShort(t *testing.T) { // P12.1
	eachText(parts(), 3, func(s string) { wantText(t, s) })
	eachText(few(), 6, func(s string) { wantText(t, s) })
	eachPair(func(s string) { wantText(t, s) })
}

func TestLong(t *testing.T) { // P12.1
	for _, s := range texts() {
		wantText(t, s)
	}
	for _, s := range []string{"a", " ", "0", "é", "\xff", "\"", "\\\"", "/", "*", "&", "\n", "let ", "a;", "\"a\" ", "\"\n", "//\n", "/**/"} {
		long := strings.Repeat(s, 1<<14)
		for _, x := range []string{long, "//" + long, "/*" + long, "\"" + long, long + "\"", long + "/*"} {
			wantText(t, x)
		}
	}
}

// TestVeryLong has so many tokens that a walk over the rest of the text for each would not end in time.
func TestVeryLong(t *testing.T) { // P12.1 to P12.3
	s := strings.Repeat("let x = \"\xff\"; // é\n", 1<<16)
	l := All(s)
	if len(l) != 11<<16 || !Right(s, l) || Right(s[1:], l) || At(l, len(s)-1) != len(l)-1 || Next(l, len(l)-3) != len(l) {
		t.Errorf("%d tokens", len(l))
	}
}

func TestKeywords(t *testing.T) { // P12.1
	for i, w := range words() {
		wantTokens(t, w, []api.Token{{Kind: api.TkLet + uint8(i), Width: len(w), Look: 1}})
		for _, around := range append(parts(), "a", "let") {
			wantText(t, around+w)
			wantText(t, w+around)
			wantText(t, around+w+around)
		}
	}
	for i, x := range operators() {
		kind := api.TkLeft + uint8(i)
		if l := All(x); len(l) != 1 || l[0].Kind != kind || l[0].Width != len(x) {
			t.Errorf("%s: %v", x, l)
		}
	}
}

// wrongs calls f with lists that differ from l: a token less or more in each place, or one field of one token.
func wrongs(l []api.Token, f func(l []api.Token)) {
	for i := range len(l) + 1 {
		for _, more := range []api.Token{{}, {Kind: api.TkBlank, Width: 1, Look: 1}, {Kind: api.TkOdd, Width: 1}, {Kind: api.TkName}} {
			f(slices.Insert(slices.Clone(l), i, more))
		}
		f(slices.Insert(slices.Clone(l), i, l[max(0, i-1):min(i+1, len(l))]...))
		f(l[:i])
		f(l[i:])
	}
	for i := range l {
		f(slices.Delete(slices.Clone(l), i, i+1))
		for _, by := range []int{1, -1, 2, 1 << 8, 1 << 32, -1 << 63} {
			for field := range 3 {
				other := slices.Clone(l)
				switch field {
				case 0:
					other[i].Kind += uint8(by) + uint8(by>>8&1)
				case 1:
					other[i].Width += by
				case 2:
					other[i].Look += by
				}
				f(other)
			}
		}
		for j := range i {
			other := slices.Clone(l)
			other[i], other[j] = l[j], l[i]
			f(other)
		}
	}
}

func TestWrong(t *testing.T) { // P12.1
	for _, s := range append(append(append(programs(), unended()...), mixed(30, 30)...), "", "a", " ", "\xff", "let x1=-2;") {
		right := wantAll(s)
		wrongs(right, func(l []api.Token) {
			if got, want := Right(s, l), slices.Equal(l, right); got != want {
				t.Fatalf("Right(%.80q, %.400v): %v", s, l, got)
			}
		})
		for _, l := range anyLists()[:300] {
			if got, want := Right(s, l), slices.Equal(l, right); got != want {
				t.Fatalf("Right(%.80q, %.400v): %v", s, l, got)
			}
		}
	}
}

// TestOfOtherTexts asks whether the tokens of one text are those of another: many texts have the same.
func TestOfOtherTexts(t *testing.T) { // P12.1
	var all []string
	eachText([]string{"a", "b", "1", " ", "\n", "\"", "/", "é", "\xff"}, 2, func(s string) { all = append(all, s) })
	for _, s := range all {
		for _, x := range all {
			if got, want := Right(s, wantAll(x)), slices.Equal(wantAll(s), wantAll(x)); got != want {
				t.Fatalf("Right(%q, the tokens of %q): %v", s, x, got)
			}
		}
	}
}
