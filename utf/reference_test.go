package utf

// The reference: a scanner by the grammar of RFC 3629, section 4, that shares nothing with the package.

// item is what a scan has at an offset: a character, or an invalid byte (ok is false).
type item struct {
	at, size int
	r        rune
	ok       bool
}

// units of an item.
func (x item) units() int {
	if x.ok && x.r >= 0x10000 {
		return 2
	}
	return 1
}

// form is a row of the grammar: the range of each byte, and what the first byte adds.
type form struct {
	bytes [][2]byte
	base  rune
}

func forms() []form {
	tail := [2]byte{0x80, 0xbf}
	return []form{
		{[][2]byte{{0x00, 0x7f}}, 0},
		{[][2]byte{{0xc2, 0xdf}, tail}, 0xc0},
		{[][2]byte{{0xe0, 0xe0}, {0xa0, 0xbf}, tail}, 0xe0},
		{[][2]byte{{0xe1, 0xec}, tail, tail}, 0xe0},
		{[][2]byte{{0xed, 0xed}, {0x80, 0x9f}, tail}, 0xe0},
		{[][2]byte{{0xee, 0xef}, tail, tail}, 0xe0},
		{[][2]byte{{0xf0, 0xf0}, {0x90, 0xbf}, tail, tail}, 0xf0},
		{[][2]byte{{0xf1, 0xf3}, tail, tail, tail}, 0xf0},
		{[][2]byte{{0xf4, 0xf4}, {0x80, 0x8f}, tail, tail}, 0xf0},
	}
}

// grammar is made once: the tests ask for millions of characters.
var grammar = forms()

func (f form) fits(s string) bool {
	if len(s) < len(f.bytes) {
		return false
	}
	for i, b := range f.bytes {
		if s[i] < b[0] || s[i] > b[1] {
			return false
		}
	}
	return true
}

// itemAt is the item with which s[at:] begins.
func itemAt(s string, at int) item {
	for _, f := range grammar {
		if f.fits(s[at:]) {
			r := rune(s[at]) - f.base
			for i := 1; i < len(f.bytes); i++ {
				r = r<<6 | rune(s[at+i]-0x80)
			}
			return item{at, len(f.bytes), r, true}
		}
	}
	return item{at, 1, 0, false}
}

func scan(s string) []item {
	var l []item
	for at := 0; at < len(s); {
		x := itemAt(s, at)
		l = append(l, x)
		at += x.size
	}
	return l
}

// edgeBytes are the bytes at which a range of the grammar begins or ends, and those beside them.
func edgeBytes() []byte {
	return []byte{0x00, 0x41, 0x7f, 0x80, 0x8f, 0x90, 0x9f, 0xa0, 0xbd, 0xbf, 0xc0, 0xc1, 0xc2, 0xdf, 0xe0, 0xe1, 0xec, 0xed, 0xee, 0xef, 0xf0, 0xf1, 0xf3, 0xf4, 0xf5, 0xff}
}

// pieces are whole characters of each length, U+FFFD itself, and bytes that are none.
func pieces() []string {
	return []string{"a", "\x00", "é", "€", "\ufffd", "\U0001F600", "\uffff", "\U00010000", "\x80", "\xff", "\xc3", "\xe2\x82", "\xed\xa0\x80", "\xf0\x9f\x98", "\xf4\x90\x80\x80", "\xc0\x80"}
}

// eachBytes calls f with every string of at most most of the bytes.
func eachBytes(bytes []byte, most int, f func(s string)) {
	var grow func(s string)
	grow = func(s string) {
		f(s)
		if len(s) < most {
			for _, b := range bytes {
				grow(s + string([]byte{b}))
			}
		}
	}
	grow("")
}

// eachText calls f with every concatenation of at most most of the pieces.
func eachText(most int, f func(s string)) {
	var grow func(s string, n int)
	grow = func(s string, n int) {
		f(s)
		if n < most {
			for _, p := range pieces() {
				grow(s+p, n+1)
			}
		}
	}
	grow("", 0)
}
