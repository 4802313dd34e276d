package dfa

import (
	"math"
	"math/rand/v2"
	"strings"
)

// far are numbers far outside of any text or table, among them those that wrap round to small ones in fewer bits.
func far() []int {
	l := []int{math.MinInt, math.MinInt + 1, math.MaxInt - 1, math.MaxInt}
	for bits := 7; bits < 63; bits++ {
		for n := range 4 {
			l = append(l, 1<<bits+n, -1<<bits+n)
		}
	}
	return l
}

// invalid are bytes that are no characters: ones that begin none, and what is cut off of longer ones.
func invalid() []string {
	return []string{"\x80", "\xbf", "\xc0", "\xc3", "\xe2\x82", "\xed\xa0\x80", "\xf0\x9f\x98", "\xf4\x90\x80\x80", "\xff"}
}

// parts are a character of each class, of each length, and invalid bytes.
func parts() []string {
	l := []string{" ", "\t", "\n", "\r", "a", "Z", "_", "0", "9", "#", "\x00", "\x7f", "\v", "é", "€", "\U0001F600", "\ufffd", "\xc3", "\xf0\x9f\x98", "\xff"}
	for _, c := range `"\/*=!<>&|(){},;+-%` {
		l = append(l, string(c))
	}
	return l
}

// few are the parts on which comments and texts depend.
func few() []string { return []string{"/", "*", "\"", "\\", "\n", "a", "\xff"} }

// eachText calls f with every concatenation of at most so many of the parts.
func eachText(of []string, many int, f func(s string)) {
	var grow func(s string, n int)
	grow = func(s string, n int) {
		f(s)
		if n < many {
			for _, p := range of {
				grow(s+p, n+1)
			}
		}
	}
	grow("", 0)
}

// words are the keywords, as DOC.md names them: TkLet .. TkFalse.
func words() []string {
	return []string{"let", "fn", "if", "else", "while", "return", "true", "false"}
}

// programs are longer texts, most of them such as people write.
func programs() []string {
	return []string{
		"let x = 1;\nfn f(a, b) {\r\n\treturn a + b * (x - 2) % 3;\r}\n// all of it\nwhile !f(x, -1) == true && x <= 2 || x >= 3 { x = x / 2; }\n/* the\nend */",
		"if a<b{lets=letx;}else if a!=b{return\"t\\\"e\\\\\";}while1 _if if_ iff 0let",
		"\"one\" \"two\\\n\"three\\\r\n\"four\\\"\r\"five é\xff\" \"six",
		"/**/ /***/ /*/ */ /* * / **/ // /* \n*/ /* // \r\n \"*/\" */ \"",
		"#é€\U0001F600@$?~^'`[].:\\\x00\x7f&&&|||===!==<==>==+-+",
		"a\xffb\xc3\xe2\x82\xf0\x9f\x98 // \xff\xc3\r/* \xe2\x82*/\"\xf0\x9f\\\xff\\\xc3\"é\xc3",
		"let let fn fn if if else while return true false",
	}
}

// mixed are texts of many parts in random orders.
func mixed(texts, many int) []string {
	random := rand.New(rand.NewPCG(11, 7))
	from := append(append(append(parts(), words()...), "//", "/*", "*/", "\"", "\\\"", "a", " "), invalid()...)
	l := make([]string, texts)
	for i := range l {
		var b strings.Builder
		for range random.IntN(many) {
			b.WriteString(from[random.IntN(len(from))])
		}
		l[i] = b.String()
	}
	return l
}
