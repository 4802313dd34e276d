package dfa

import (
	"regexp"
	"strconv"
	"strings"
	"unicode/utf8"

	"glossator/api"
)

// The reference of chapter 11: its tables, as they stand there, and its definition of a token, step by step.

// characters are those of each class; class 0 has all others.
func characters() []string {
	return []string{
		"", " \t", "\n\r", "abcdefghijklmnopqrstuvwxyzABCDEFGHIJKLMNOPQRSTUVWXYZ_", "0123456789", `"`, `\`, "/",
		"*", "=", "!", "<", ">", "&", "|", "(",
		")", "{", "}", ",", ";", "+", "-", "%",
	}
}

func wantClass(r rune) int {
	for class, l := range characters() {
		for _, c := range l {
			if c == r {
				return class
			}
		}
	}
	return 0
}

// line is a line of the chapter's table: the kind of a state, and its transitions in the chapter's words.
type line struct {
	kind uint8
	by   string
}

func chapter() []line {
	return []line{
		{0, "0, 6: 34; 1, 2: 1; 3: 7; 4: 8; 5: 9; 7: 2; 8: 32; 9: 12; 10: 14; 11: 16; 12: 18; 13: 20; 14: 22; 15: 24; 16: 25; 17: 26; 18: 27; 19: 28; 20: 29; 21: 30; 22: 31; 23: 33"},
		{api.TkBlank, "1, 2: 1"},
		{api.TkOver, "7: 3; 8: 4"},
		{api.TkLine, "all but 2: 3"},
		{api.TkOpen, "8: 5; all others: 4"},
		{api.TkOpen, "8: 5; 7: 6; all others: 4"},
		{api.TkBlock, ""},
		{api.TkName, "3, 4: 7"},
		{api.TkInt, "4: 8"},
		{api.TkBroken, "5: 11; 6: 10; all others but 2: 9"},
		{api.TkBroken, "all but 2: 9"},
		{api.TkText, ""},
		{api.TkAssign, "9: 13"}, {api.TkEqual, ""},
		{api.TkNot, "9: 15"}, {api.TkUnlike, ""},
		{api.TkLess, "9: 17"}, {api.TkAtMost, ""},
		{api.TkMore, "9: 19"}, {api.TkAtLeast, ""},
		{api.TkOdd, "13: 21"}, {api.TkAnd, ""},
		{api.TkOdd, "14: 23"}, {api.TkOr, ""},
		{api.TkLeft, ""}, {api.TkRight, ""}, {api.TkBegin, ""}, {api.TkEnd, ""}, {api.TkComma, ""}, {api.TkSemi, ""}, {api.TkPlus, ""}, {api.TkMinus, ""},
		{api.TkTimes, ""}, {api.TkRest, ""}, {api.TkOdd, ""},
	}
}

func number(s string) int {
	n, err := strconv.Atoi(s)
	if err != nil {
		panic(err)
	}
	return n
}

// transitions are those of a line, by their classes.
func (l line) transitions() map[int]int {
	m := map[int]int{}
	if l.by == "" {
		return m
	}
	for _, item := range strings.Split(l.by, "; ") {
		by, to, _ := strings.Cut(item, ": ")
		listed, but, _ := strings.Cut(by, "but ")
		if !strings.HasPrefix(listed, "all") {
			for _, class := range strings.Split(listed, ", ") {
				m[number(class)] = number(to)
			}
			continue
		}
		for class := range characters() {
			if _, named := m[class]; !named && strconv.Itoa(class) != but {
				m[class] = number(to)
			}
		}
	}
	return m
}

// steps are the transitions of each state. They are made once: the tests ask for millions.
var steps = func() (l []map[int]int) {
	for _, x := range chapter() {
		l = append(l, x.transitions())
	}
	return l
}()

func wantStep(state, class int) int {
	if state >= 0 && state < len(steps) {
		if to, ok := steps[state][class]; ok {
			return to
		}
	}
	return -1
}

func wantKind(state int) uint8 {
	if state < 0 || state >= len(steps) {
		return 0
	}
	return chapter()[state].kind
}

// wantScan is the token at an offset by the chapter's definition.
func wantScan(s string, at int) (api.Token, bool) {
	if at < 0 || at >= len(s) {
		return api.Token{}, false
	}
	state, end, last := 0, at, false
	for end < len(s) {
		r, size := utf8.DecodeRuneInString(s[end:])
		bad := r == utf8.RuneError && size == 1
		class := 0
		if !bad {
			class = wantClass(r)
		}
		if wantStep(state, class) < 0 {
			break
		}
		state, end, last = wantStep(state, class), end+size, bad
	}
	t := api.Token{Kind: wantKind(state), Width: end - at, Look: 1}
	if t.Kind == api.TkName {
		t.Kind = wantWord(s[at:end])
	}
	if len(steps[state]) == 0 {
		t.Look = 0
		if state == 34 && last {
			t.Look = 3
			if behind := len(s) - end; behind < 3 {
				t.Look = behind + 1
			}
		}
	}
	return t, true
}

var name = regexp.MustCompile(`\A[a-zA-Z_][a-zA-Z_0-9]*\z`)

func wantWord(s string) uint8 {
	for n, w := range words() {
		if s == w {
			return api.TkLet + uint8(n)
		}
	}
	if name.MatchString(s) {
		return api.TkName
	}
	return 0
}
