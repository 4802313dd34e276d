package relex

import (
	"math"
	"math/rand/v2"
	"strings"

	"glossator/api"
)

// far are numbers far outside of any text or list, among them those that wrap round to small ones in fewer bits.
func far() []int {
	l := []int{math.MinInt, math.MinInt + 1, math.MaxInt - 1, math.MaxInt}
	for bits := 7; bits < 63; bits += 5 {
		for n := -1; n < 3; n++ {
			l = append(l, 1<<bits+n, -1<<bits+n)
		}
	}
	return l
}

// parts are the bytes on which comments and strings depend, and one of each kind beside them.
func parts() []string { return []string{"/", "*", "\\", "\"", "'", "a", "0", " ", "\n"} }

// few are those of them that change the most, with an invalid byte.
func few() []string { return []string{"/", "*", "\"", "\\", "\n", "a", "\xff"} }

// bytewise are the bytes of characters of each length, whole and cut.
func bytewise() []string {
	return []string{"\xf0", "\x9f", "\x98", "\x80", "\xc3", "\xff", "é", "(", "/", "\""}
}

// eachText calls f with every concatenation of at most so many of the parts.
func eachText(of []string, many int, f func(s string)) {
	var grow func(s string, n int)
	grow = func(s string, n int) {
		f(s)
		if n < many {
			for _, p := range of {
				grow(s+p, n+1)
			}
		}
	}
	grow("", 0)
}

// inserts are what an edit puts into a text: nothing, and what may open, close or divide a token.
func inserts() []string {
	return []string{"", " ", "a", "0", "\n", "\"", "\\", "/", "*", "/*", "*/", "//", "\"\"", "a b", "\xff", "\x80", "é"}
}

// programs are longer texts, most of them such as people write.
func programs() []string {
	return []string{
		"let x = 1;\nfn f(a, b) {\r\n\treturn a + b * (x - 2) % 3;\r}\n// all of it\nwhile !f(x, -1) == true && x <= 2 || x >= 3 { x = x / 2; }\n/* the\nend */",
		"if a<b{lets=letx;}else if a!=b{return\"t\\\"e\\\\\";}while1 _if if_ iff 0let",
		"\"one\" \"two\\\n\"three\\\r\n\"four\\\"\r\"five é\xff\" \"six",
		"/**/ /***/ /*/ */ /* * / **/ // /* \n*/ /* // \r\n \"*/\" */ \"",
		"#é€\U0001F600@$?~^'`[].:\\\x00\x7f&&&|||===!==<==>==+-+",
		"a\xffb\xc3\xe2\x82\xf0\x9f\x98 // \xff\xc3\r/* \xe2\x82*/\"\xf0\x9f\\\xff\\\xc3\"é\xc3",
		"let let fn fn if if else else while return true false",
	}
}

// pieces are what long texts are made of: tokens of each kind, and what opens or closes long ones.
func pieces() []string {
	return []string{
		"let ", "fn", "if ", "x", "name", "0", "12", " ", "\n", "\r\n", "\t", "+", "-", "*", "/", "%", "!", "=", "==", "<", ">=", "&", "&&", "|", "||", "(", ")", "{", "}", ",", ";",
		"//", "// b\n", "/*", "*/", "/* c */", "\"", "\"d\"", "\\\"", "\\", "'", "#", "é", "€", "\U0001F600", "\x80", "\xc3", "\xe2\x82", "\xf0\x9f\x98", "\xff",
	}
}

// anyText is a text of so many pieces; mild ones have few that open a long token.
func anyText(random *rand.Rand, many int, mild bool) string {
	var b strings.Builder
	for range many {
		p := pieces()[random.IntN(len(pieces()))]
		if mild && random.IntN(8) > 0 {
			p = pieces()[random.IntN(31)]
		}
		b.WriteString(p)
	}
	return b.String()
}

// edit is one by bytes: the spans, and both texts.
type edit struct {
	from, to string
	old, now api.Span
}

// changed is the edit that puts something in the place of the bytes from a to b.
func changed(s string, a, b int, put string) edit {
	return edit{s, s[:a] + put + s[b:], api.Span{From: a, To: b}, api.Span{From: a, To: a + len(put)}}
}

// eachEdit calls f with the edits of a text: between any two places of it, what is passed put there, and what stood there put again.
func eachEdit(s string, puts []string, f func(x edit)) {
	for a := range len(s) + 1 {
		for b := a; b <= len(s); b++ {
			f(changed(s, a, b, s[a:b]))
			for _, put := range puts {
				f(changed(s, a, b, put))
			}
		}
	}
}

// anyEdit puts something small in the place of a few bytes, now and then of many.
func anyEdit(random *rand.Rand, s string) edit {
	a := random.IntN(len(s) + 1)
	many := random.IntN(4)
	if random.IntN(6) == 0 {
		many = random.IntN(len(s) + 1)
	}
	return changed(s, a, min(a+many, len(s)), anyText(random, random.IntN(3), false))
}

// ofWidths is a list of tokens of those widths, with the Look 1.
func ofWidths(l ...int) []api.Token {
	tokens := make([]api.Token, len(l))
	for i, w := range l {
		tokens[i] = api.Token{Kind: api.TkName, Width: w, Look: 1}
	}
	return tokens
}

// times is a list of one token, so many times.
func times(n int, x api.Token) []api.Token {
	l := make([]api.Token, n)
	for i := range l {
		l[i] = x
	}
	return l
}
