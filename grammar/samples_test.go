package grammar

import (
	"math/rand/v2"
	"slices"
	"strings"
	"testing"

	"glossator/api"
)

// chapter is the chapter's table of rules: a part, the numbers of its rules, their right-hand sides.
const chapter = `
NkFile | 0 | 101
101 | 1 to 2 | 102 101; nothing
102 | 3 to 9 | NkLet; NkFn; NkIf; NkWhile; NkReturn; NkBlock; NkDo
NkLet | 10 | TkLet TkName TkAssign NkExpr TkSemi
NkFn | 11 | TkFn TkName NkParams NkBlock
NkParams | 12 | TkLeft 103 TkRight
103 | 13 to 14 | TkName 104; nothing
104 | 15 to 16 | TkComma TkName 104; nothing
NkIf | 17 | TkIf NkExpr NkBlock 105
105 | 18 to 19 | TkElse 106; nothing
106 | 20 to 21 | NkIf; NkBlock
NkWhile | 22 | TkWhile NkExpr NkBlock
NkReturn | 23 | TkReturn 107 TkSemi
107 | 24 to 25 | NkExpr; nothing
NkBlock | 26 | TkBegin 101 TkEnd
NkDo | 27 | NkExpr 108 TkSemi
108 | 28 to 29 | TkAssign NkExpr; nothing
NkExpr | 30 | 111
111 | 31 | 112 121
121 | 32 to 33 | TkOr 112 121; nothing
112 | 34 | 113 122
122 | 35 to 36 | TkAnd 113 122; nothing
113 | 37 | 114 123
123 | 38 to 44 | TkEqual 114 123; TkUnlike 114 123; TkLess 114 123; TkAtMost 114 123; TkMore 114 123; TkAtLeast 114 123; nothing
114 | 45 | 115 124
124 | 46 to 48 | TkPlus 115 124; TkMinus 115 124; nothing
115 | 49 | 116 125
125 | 50 to 53 | TkTimes 116 125; TkOver 116 125; TkRest 116 125; nothing
116 | 54 to 56 | TkMinus 116; TkNot 116; 117
117 | 57 | 119 118
118 | 58 to 59 | NkArgs 118; nothing
NkArgs | 60 | TkLeft 109 TkRight
109 | 61 to 62 | NkExpr 110; nothing
110 | 63 to 64 | TkComma NkExpr 110; nothing
119 | 65 to 67 | NkUse; NkPlain; NkGroup
NkUse | 68 | TkName
NkPlain | 69 to 72 | TkInt; TkText; TkTrue; TkFalse
NkGroup | 73 | TkLeft NkExpr TkRight
`

// names of symbols by their numbers; the parts that are no kinds of nodes have none.
func symbols() map[string]uint8 {
	return map[string]uint8{
		"TkBlank": 1, "TkLine": 2, "TkBlock": 3, "TkOpen": 4, "TkOdd": 5, "TkName": 6, "TkInt": 7, "TkText": 8, "TkBroken": 9,
		"TkLet": 10, "TkFn": 11, "TkIf": 12, "TkElse": 13, "TkWhile": 14, "TkReturn": 15, "TkTrue": 16, "TkFalse": 17,
		"TkLeft": 20, "TkRight": 21, "TkBegin": 22, "TkEnd": 23, "TkComma": 24, "TkSemi": 25, "TkAssign": 26,
		"TkEqual": 27, "TkUnlike": 28, "TkLess": 29, "TkAtMost": 30, "TkMore": 31, "TkAtLeast": 32, "TkPlus": 33, "TkMinus": 34,
		"TkTimes": 35, "TkOver": 36, "TkRest": 37, "TkNot": 38, "TkAnd": 39, "TkOr": 40,
		"NkFile": 51, "NkBlock": 52, "NkLet": 53, "NkFn": 54, "NkParams": 55, "NkIf": 56, "NkWhile": 57, "NkReturn": 58, "NkDo": 59, "NkExpr": 60,
		"NkArgs": 64, "NkGroup": 65, "NkUse": 66, "NkPlain": 67,
	}
}

// words are the kinds as a text has them.
func words() map[string]uint8 {
	return map[string]uint8{
		"x": 6, "0": 7, "'t'": 8, "let": 10, "fn": 11, "if": 12, "else": 13, "while": 14, "return": 15, "true": 16, "false": 17,
		"(": 20, ")": 21, "{": 22, "}": 23, ",": 24, ";": 25, "=": 26, "==": 27, "!=": 28, "<": 29, "<=": 30, ">": 31, ">=": 32, "+": 33, "-": 34,
		"*": 35, "/": 36, "%": 37, "!": 38, "&&": 39, "||": 40,
	}
}

// row are the kinds of a text's words.
func row(t *testing.T, text string) []uint8 {
	t.Helper()
	of := words()
	var l []uint8
	for _, w := range strings.Fields(text) {
		kind, ok := of[w]
		if !ok {
			t.Fatalf("no word: %s", w)
		}
		l = append(l, kind)
	}
	return l
}

// rightTexts are texts that are derived from NkFile.
func rightTexts() []string {
	return []string{
		"",
		"let x = 0 ;",
		"fn x ( ) { }",
		"fn x ( x ) { return ; }",
		"fn x ( x , x , x ) { return x ; }",
		"if x { }",
		"if x { } else { }",
		"if x { } else if x { } else if x { } else { x ; }",
		"while x { x = x + 0 ; }",
		"return ;",
		"return 't' ;",
		"{ }",
		"{ { } { let x = x ; } }",
		"x ;",
		"x = x ;",
		"x ( ) ;",
		"x ( x , 0 , 't' ) ( ) = true ;",
		"- ! - x ;",
		"( ( x ) ) ;",
		"( x ) ( x ) ;",
		"x < x < x ;",
		"x == x != x <= x >= x > x ;",
		"x || x && x == x + x * - x - x / x % x || ! false ;",
		"x ; { } x ; if x { } x ; return ; let x = 0 ; fn x ( ) { } while x { } 0 ;",
	}
}

// wrongTexts are texts that are not.
func wrongTexts() []string {
	return []string{
		"x", ";", "let", "let x", "let x =", "let x = 0", "let x ;", "let = 0 ;", "let 0 = 0 ;", "let x = ;", "let x = x = x ;",
		"fn x ( ) ;", "fn ( ) { }", "fn x { }", "fn x ( x , ) { }", "fn x ( , x ) { }", "fn x ( x x ) { }", "fn x ( 0 ) { }", "fn x ( ) { } ;",
		"if { }", "if x ;", "if x { } else", "if x { } else x ;", "if x { } else while x { }", "if x { } else { } else { }", "{ } else { }", "{ } else", "else { }", "while x { } else { }",
		"while { }", "while x", "return", "return return ;", "return x x ;", "return x = x ;",
		"{", "}", "{ } }", "{ { }", "{ x }", "{ } ;",
		"x x ;", "x = ;", "x = x = x ;", "x = x", "= x ;", "x ( ;", "x ) ;", "x ( , ) ;", "x ( x , ) ;", "x ( x x ) ;", "( ) ;", "( x ;", "( x , x ) ;", "x , x ;",
		"- ;", "! ;", "x + ;", "+ x ;", "x + + x ;", "x < < x ;", "x == == x ;", "x * * x ;", "x && ;", "|| x ;", "x ! x ;", "x ! ;", "x - ;", "x ; ;", "x = let x ;",
	}
}

// eachRow calls f with each row of at most so many of the kinds; the row is f's only while it runs.
func eachRow(of []uint8, many int, f func(row []uint8)) {
	var grow func(row []uint8)
	grow = func(row []uint8) {
		f(row)
		if len(row) < many {
			for _, kind := range of {
				grow(append(row, kind))
			}
		}
	}
	grow(make([]uint8, 0, many))
}

// nearly calls f with all rows that differ from one in one place: a kind fewer, one more, or another one.
func nearly(row []uint8, f func(row []uint8)) {
	for at := range len(row) + 1 {
		if at < len(row) {
			f(slices.Delete(slices.Clone(row), at, at+1))
		}
		for kind := range 256 {
			f(slices.Insert(slices.Clone(row), at, uint8(kind)))
			if at < len(row) {
				f(slices.Replace(slices.Clone(row), at, at+1, uint8(kind)))
			}
		}
	}
}

// derived is a sequence derived from a symbol by rules picked at random; with no steps left, by those that end soonest.
func derived(g *reference, random *rand.Rand, symbol uint8, steps *int) []uint8 {
	if !g.part(symbol) {
		return []uint8{symbol}
	}
	*steps--
	rights := g.rights[symbol]
	n := random.IntN(len(rights))
	if *steps < 0 {
		n = g.soonest[symbol]
	}
	var l []uint8
	for _, s := range rights[n] {
		l = append(l, derived(g, random, s, steps)...)
	}
	return l
}

// file is a sequence derived from NkFile.
func file(g *reference, random *rand.Rand, steps int) []uint8 {
	return derived(g, random, api.NkFile, &steps)
}

// many is something so often.
func many(n int, l ...uint8) []uint8 { return slices.Repeat(l, n) }
