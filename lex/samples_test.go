package lex

import (
	"math"
	"math/rand/v2"
	"strings"

	"glossator/api"
)

// far are numbers far outside of any text or list, among them those that wrap round to small ones in fewer bits.
func far() []int {
	l := []int{math.MinInt, math.MinInt + 1, math.MaxInt - 1, math.MaxInt}
	for bits := 7; bits < 63; bits++ {
		for n := -1; n < 3; n++ {
			l = append(l, 1<<bits+n, -1<<bits+n)
		}
	}
	return l
}

// invalid are bytes that are no characters: ones that begin none, and what is cut off of longer ones.
func invalid() []string {
	return []string{"\x80", "\xbf", "\xc0", "\xc3", "\xe2\x82", "\xed\xa0\x80", "\xf0\x9f\x98", "\xf4\x90\x80\x80", "\xff"}
}

// parts are characters of each kind of token and of each length, and invalid bytes.
func parts() []string {
	l := []string{" ", "\t", "\n", "\r", "a", "Z", "_", "0", "9", "#", "\x00", "é", "€", "\U0001F600", "\ufffd", "\xc3", "\xf0\x9f\x98", "\xff"}
	for _, c := range `"\/*=!<>&|(){},;+-%` {
		l = append(l, string(c))
	}
	return l
}

// few are the parts on which comments and texts depend.
func few() []string { return []string{"/", "*", "\"", "\\", "\n", "a", "\xff"} }

// eachText calls f with every concatenation of at most so many of the parts.
func eachText(of []string, many int, f func(s string)) {
	var grow func(s string, n int)
	grow = func(s string, n int) {
		f(s)
		if n < many {
			for _, p := range of {
				grow(s+p, n+1)
			}
		}
	}
	grow("", 0)
}

// eachPair calls f with every string of two bytes, alone and within a name, a comment and a text.
func eachPair(f func(s string)) {
	for c := range 256 {
		for d := range 256 {
			s := string([]byte{byte(c), byte(d)})
			for _, x := range []string{s, "a" + s, "//" + s, "/*" + s + "*/", "\"" + s + "\"", "\"\\" + s} {
				f(x)
			}
		}
	}
}

// words are the keywords, as DOC.md names them: TkLet .. TkFalse.
func words() []string {
	return []string{"let", "fn", "if", "else", "while", "return", "true", "false"}
}

// programs are longer texts, most of them such as people write.
func programs() []string {
	return []string{
		"let x = 1;\nfn f(a, b) {\r\n\treturn a + b * (x - 2) % 3;\r}\n// all of it\nwhile !f(x, -1) == true && x <= 2 || x >= 3 { x = x / 2; }\n/* the\nend */",
		"if a<b{lets=letx;}else if a!=b{return\"t\\\"e\\\\\";}while1 _if if_ iff 0let",
		"\"one\" \"two\\\n\"three\\\r\n\"four\\\"\r\"five é\xff\" \"six",
		"/**/ /***/ /*/ */ /* * / **/ // /* \n*/ /* // \r\n \"*/\" */ \"",
		"#é€\U0001F600@$?~^'`[].:\\\x00\x7f&&&|||===!==<==>==+-+",
		"a\xffb\xc3\xe2\x82\xf0\x9f\x98 // \xff\xc3\r/* \xe2\x82*/\"\xf0\x9f\\\xff\\\xc3\"é\xc3",
		"let let fn fn if if else while return true false",
	}
}

// mixed are texts of many parts in random orders.
func mixed(texts, many int) []string {
	random := rand.New(rand.NewPCG(12, 5))
	from := append(append(append(parts(), words()...), "//", "/*", "*/", "\"", "\\\"", "a", " "), invalid()...)
	l := make([]string, texts)
	for i := range l {
		var b strings.Builder
		for range random.IntN(many) {
			b.WriteString(from[random.IntN(len(from))])
		}
		l[i] = b.String()
	}
	return l
}

// unended are comments and texts that nobody ends, and all that could be taken for one.
func unended() []string {
	return []string{
		"/*", "/*/", "/**", "/*/ a", "/* * /", "/*\n", "/*a\r\n", "/*\"*", "/*//", "/*\\*", "/*\xff", "/*é*",
		"//", "//\n", "//a\r\nb", "// /*\r*/", "//\xff\n", "//\\\na", "///*", "/ /",
		"\"", "\"\n\"", "\"a\r\nb", "\"a\nb\"", "\"\r", "\"\xff", "\"é\n", "\"//\n", "\"/*\n*/", "\"a\"\"",
		"\"\\", "\"\\\n", "\"\\\r\"", "\"\\\r\n\"", "\"\\\"", "\"\\\\", "\"\\\\\\\n", "\"\\\\\\\\\n", "\"\\\xff", "\"\\é", "\\\"", "\\\n", "\\",
	}
}

// texts are all the longer samples.
func texts() []string {
	return append(append(append(append(programs(), unended()...), invalid()...), mixed(300, 60)...), mixed(4, 3000)...)
}

// widths are those of a list that no text has to have.
func widths() []int {
	return []int{
		math.MinInt, -1 << 40, -1, 0, 1, 2, 3, 1<<40 - 2, 1<<40 - 1, 1 << 40, 1<<40 + 1, 1 << 41, 1<<62 - 1, 1 << 62, math.MaxInt - 1<<40, math.MaxInt - 1, math.MaxInt,
	}
}

// ofWidths is a list of tokens of those widths, of any kinds and Looks.
func ofWidths(l ...int) []api.Token {
	tokens := make([]api.Token, len(l))
	for i, w := range l {
		tokens[i] = api.Token{Kind: uint8(37*i + w&0xff), Width: w, Look: w - i}
	}
	return tokens
}

// anyLists are lists of tokens, with those that no text has.
func anyLists() [][]api.Token {
	lists := [][]api.Token{nil, {}, make([]api.Token, 300), ofWidths(widths()...)}
	for _, a := range widths() {
		lists = append(lists, ofWidths(a))
		for _, b := range widths() {
			lists = append(lists, ofWidths(a, b))
			for _, c := range widths() {
				lists = append(lists, ofWidths(a, b, c))
			}
		}
	}
	random := rand.New(rand.NewPCG(12, 2))
	for range 300 {
		l := make([]api.Token, random.IntN(40))
		for i := range l {
			l[i] = api.Token{Kind: uint8(random.Uint32()), Width: random.IntN(9) - 3, Look: int(random.Uint64())}
			if random.IntN(9) == 0 {
				l[i].Width = widths()[random.IntN(len(widths()))]
			}
		}
		lists = append(lists, l)
	}
	return lists
}
