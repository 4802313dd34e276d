package frame

import (
	"fmt"
	"slices"
	"strconv"
	"strings"
	"testing"

	"glossator/api"
)

const end = "\r\n\r\n"

// message is a message whose head has the one line that it must have.
func message(body string) string { return fmt.Sprintf("Content-Length: %d\r\n\r\n%s", len(body), body) }

// rest is all messages that Next still returns.
func rest(r *Reader) []string {
	var messages []string
	for {
		body, ok := r.Next()
		if !ok {
			return messages
		}
		messages = append(messages, body)
	}
}

// feedAll feeds the pieces to a new reader, reads behind each of them what there is, and returns it with the death. It asks Feed, Dead and Next for what they must answer.
func feedAll(t *testing.T, pieces ...string) ([]string, api.Errno) {
	t.Helper()
	r := New()
	var messages []string
	for _, p := range pieces {
		before := r.Dead()
		e := r.Feed([]byte(p))
		if before != api.OK && (e != api.ErrDead || r.Dead() != before) || before == api.OK && e != r.Dead() {
			t.Fatalf("Feed(%.80q) of %.80q: %d; Dead: %d, then %d", p, pieces, e, before, r.Dead())
		}
		more := rest(r)
		if before != api.OK && more != nil {
			t.Fatalf("Feed(%.80q) of %.80q: messages behind the death", p, pieces)
		}
		messages = append(messages, more...)
	}
	if body, ok := r.Next(); body != "" || ok {
		t.Fatalf("Next where there is nothing: %q, %v", body, ok)
	}
	return messages, r.Dead()
}

// want asks that the pieces have those messages and that death.
func want(t *testing.T, dead api.Errno, messages []string, pieces ...string) {
	t.Helper()
	if got, e := feedAll(t, pieces...); e != dead || !slices.Equal(got, messages) {
		t.Errorf("%.200q: %.80q, %d, not %.80q, %d", pieces, got, e, messages, dead)
	}
}

// wantEach asks it of the input in one piece, byte by byte, in pieces of some lengths, and in every cut in two, if it is short.
func wantEach(t *testing.T, dead api.Errno, messages []string, input string) {
	t.Helper()
	want(t, dead, messages, input)
	for _, n := range []int{1, 2, 3, 7, 64} {
		want(t, dead, messages, cutBy(input, n)...)
	}
	if len(input) > 200 {
		return
	}
	for i := range len(input) + 1 {
		want(t, dead, messages, input[:i], input[i:])
		want(t, dead, messages, "", input[:i], "", "", input[i:], "")
	}
}

// cutBy cuts the input into pieces of n bytes.
func cutBy(input string, n int) []string {
	var pieces []string
	for c := range slices.Chunk([]byte(input), n) {
		pieces = append(pieces, string(c))
	}
	return pieces
}

// wantBody asks that a head has a body of so many bytes, and that what stands behind the body begins the next head.
func wantBody(t *testing.T, head string, n int) {
	t.Helper()
	body := strings.Repeat("\r\n\x00\xff", n/4+1)[:n]
	wantEach(t, api.OK, []string{body, "{}"}, head+body+message("{}"))
	if n > 0 {
		wantEach(t, api.OK, nil, head+body[:n-1])
	}
}

// wantDeath asks that a head kills a reader just with its last byte, that messages ahead of it are told, and nothing behind it.
func wantDeath(t *testing.T, e api.Errno, head string) {
	t.Helper()
	wantEach(t, e, nil, head)
	wantEach(t, api.OK, nil, head[:len(head)-1])
	wantEach(t, e, []string{"ab", "", "\r\n"}, message("ab")+message("")+message("\r\n")+head+"x"+message("no"))
}

func TestMessages(t *testing.T) { // P5.1, P5.2
	for input, messages := range map[string][]string{
		"":                                      nil,
		"C":                                     nil,
		"Content-Length: 2\r\n\r\n{}x":          {"{}"},
		"X:\r\ncontent-length:\t03 \r\n\r\nabc": {"abc"},
		"Content-Length: 2\r\n\r\n{":            nil,
		"Content-Length: 2\r\n":                 nil,
		message("{}") + message("[]") + message("null"):        {"{}", "[]", "null"},
		message("") + message("") + message("a") + message(""): {"", "", "a", ""},
		message("\r\n\r\n") + message("Content-Length: 1"+end): {"\r\n\r\n", "Content-Length: 1\r\n\r\n"},
		message(message("{}")):                                 {message("{}")},
		message("é\U0001F600\x00\xff\xfe\r") + message("\n"):   {"é\U0001F600\x00\xff\xfe\r", "\n"},
		message("a") + "Content-Length: 3" + end + "bc":        {"a"},
	} {
		wantEach(t, api.OK, messages, input)
	}
}

func TestHeads(t *testing.T) { // P5.1, P5.2
	for head, n := range map[string]int{
		"Content-Length: 2" + end: 2, "Content-Length:2" + end: 2, "Content-Length:  \t 2" + end: 2, "Content-Length: 2 \t \t" + end: 2, "Content-Length:\t2\t" + end: 2,
		"content-length: 3" + end: 3, "CONTENT-LENGTH: 3" + end: 3, "cOnTeNt-lEnGtH: 3" + end: 3,
		"Content-Length: 0" + end: 0, "Content-Length: 000" + end: 0, "Content-Length: 03" + end: 3, "Content-Length: 0012" + end: 12,
		"Content-Length: " + strings.Repeat("0", 900) + "5" + end: 5,
		"A: b\r\nContent-Length: 1\r\nC: d" + end:                 1, "Content-Length: 1\r\nContent-Type: x; charset=utf-8" + end: 1,
		"X:\r\nContent-Length: 4" + end: 4, "X: \t \r\nContent-Length: 4" + end: 4, "X:y\r\nX: z\r\nx:\r\nContent-Length: 4" + end: 4,
		"X: a b\tc\r\nContent-Length: 4" + end: 4, "X: a: b:: c\r\nContent-Length: 4" + end: 4, "X::\r\nContent-Length: 4" + end: 4, "X: Content-Length: 9\r\nContent-Length: 4" + end: 4,
		"X: \x00\x01\x0b\x0c\x1f\x7f\x80\xff\u00e9\u2028\r\nContent-Length: 4" + end: 4,
		"!#$%&'*+-.^_`|~\"(),/;<=>?@[\\]{}019azAZ: 1\r\nContent-Length: 4" + end:     4, "!:\r\n~:\r\nContent-Length: 4" + end: 4,
		"Content-Lengths: 9\r\nContent-Length: 4\r\nXContent-Length: x" + end: 4, "Content_Length: 9\r\nContentLength: 8\r\nContent-Length: 4\r\nContent: 5\r\nLength: 6" + end: 4,
	} {
		wantBody(t, head, n)
	}
}

func TestBrokenHeads(t *testing.T) { // P5.1, P5.2
	const right = "Content-Length: 1\r\n"
	for _, head := range []string{
		"\r\n", "X: 1" + end, "Content-Lengt: 1" + end, "Content-Lengths: 1" + end, "Content Length: 1" + end, "\u212aontent-Length: 1" + end, // no Content-Length
		right + right + "\r\n", right + "content-length: 1" + end, right + "X:\r\nCONTENT-LENGTH: 2" + end, right + "Content-Length: 262145" + end, right + "Content-Length: x" + end, "Content-Length:\r\n" + right + "\r\n", // two of them
		"Content-Length:" + end, "Content-Length: " + end, "Content-Length: \t" + end, // no digits
		"Content-Length: -1" + end, "Content-Length: +1" + end, "Content-Length: -0" + end, "Content-Length: - 1" + end, "Content-Length: 1-" + end,
		"Content-Length: 1 1" + end, "Content-Length: 1\t1" + end, "Content-Length: 1.0" + end, "Content-Length: 1e0" + end, "Content-Length: 0x1" + end, "Content-Length: 1_0" + end, "Content-Length: 1," + end,
		"Content-Length: a" + end, "Content-Length: 1a" + end, "Content-Length: \"1\"" + end, "Content-Length: /" + end, "Content-Length: :" + end, "Content-Length:: 1" + end,
		"Content-Length: \uff11" + end, "Content-Length: \u0661" + end, "Content-Length: 1\x00" + end, "Content-Length: 1\x0b" + end, "Content-Length: 1\x0c" + end, "Content-Length: \u00a01" + end, "Content-Length: 1\x85" + end, "Content-Length: 1\xa0" + end,
		"Content-Length: 9999999999x" + end, "Content-Length: -9999999999" + end,
		"X\r\n" + right + "\r\n", right + "X" + end, right + "X y" + end, "Content-Length 1" + end, right + " " + end, right + "\t" + end, // no colon
		":\r\n" + right + "\r\n", right + ": x" + end, right + ":x" + end, right + "::" + end, ": Content-Length: 1" + end, // no name
		right + " X: 1" + end, right + "X : 1" + end, right + "X\t: 1" + end, right + "\tX: 1" + end, right + " : 1" + end, "Content-Length : 1" + end, " Content-Length: 1" + end, "a b: 1" + end,
		right + "\x00: 1" + end, right + "X\x1f: 1" + end, right + "\x7fX: 1" + end, right + "X\x80Y: 1" + end, right + "\xff: 1" + end, right + "é: 1" + end, right + "X\x20: 1" + end,
		right + "A: \n" + end, right + "A: \n x" + end, right + "A\n: x" + end, "A: \n" + end, "A: x\nContent-Length: 1" + end, "Content-Length: 1\n" + end, "\nContent-Length: 1" + end, "Content-Length: 1\n\n" + end, "Content-Length:\n1" + end, right + "\n" + end, right + "A: x\n" + end, // a lone 0A
		right + "A: \r" + end, right + "A: x\ry" + end, right + "A\r: x" + end, "A: x\rContent-Length: 1" + end, "Content-Length: 1\r" + end, "\rContent-Length: 1" + end, "Content-Length: 1\r\r" + end, "Content-Length:\r1" + end, right + "\r" + end, // a lone 0D
		"\n\r" + end, right + "\n\r" + end, "Content-Length: 1\n\r" + end,
	} {
		wantDeath(t, api.ErrHead, head)
	}
	wantEach(t, api.ErrHead, nil, right+"\r\r\n\r\n") // 0D, and then a line end: no empty line
	wantEach(t, api.OK, nil, right+"\r\r\n")
	wantEach(t, api.OK, nil, right+"\n\n\r\n")
	wantEach(t, api.OK, nil, "a b\r\n: \r\n\xff\r\n\r") // it has not ended
}

func TestEachByteOfAName(t *testing.T) { // P5.1
	for c := range 256 {
		for _, form := range []string{"%s: 1", "X%s: 1", "%sX: 1", "X%sY: 1"} {
			head := "Content-Length: 2\r\n" + fmt.Sprintf(form, string([]byte{byte(c)})) + end
			if c >= 0x21 && c <= 0x7e && (c != ':' || form[0] == 'X') { // a colon behind something ends the name
				want(t, api.OK, []string{"ab"}, head+"ab")
			} else {
				want(t, api.ErrHead, nil, head+"ab")
			}
		}
	}
}

func TestEachByteOfAValue(t *testing.T) { // P5.1
	for c := range 256 {
		s := string([]byte{byte(c)})
		for _, value := range []string{s, "x" + s, s + "x", " x" + s + "y "} {
			head := "X:" + value + "\r\nContent-Length: 2" + end
			if c == '\r' || c == '\n' {
				want(t, api.ErrHead, nil, head+"ab")
			} else {
				want(t, api.OK, []string{"ab"}, head+"ab")
			}
		}
		for _, value := range []string{s, s + s, "0" + s, s + "0"} {
			head := "Content-Length: " + value + end
			body := strings.Repeat("b", 99)
			n, err := strconv.Atoi(strings.Trim(value, " \t"))
			if err != nil || c == '+' || c == '-' {
				want(t, api.ErrHead, nil, head+body)
			} else {
				want(t, api.OK, []string{body[:n]}, head+body[:n])
			}
		}
	}
}

// padded is a head of n bytes that has not ended, nor a line of which may not be there.
func padded(n int) string { return "Content-Length: 1\r\nX: " + strings.Repeat("y", n-22) }

func TestLongHeads(t *testing.T) { // P5.1
	for _, last := range []string{"", "\r", "\r\n", "\r\n\r"} {
		want(t, api.OK, nil, padded(1023-len(last))+last)
		wantEach(t, api.OK, nil, padded(1023-len(last))+last)
		wantDeath(t, api.ErrHead, padded(1024-len(last))+last)
		wantEach(t, api.ErrHead, nil, padded(1024-len(last))+last+"\r\n\r\nab")
	}
	for n := 1000; n <= 1024; n++ {
		wantBody(t, padded(n-4)+end, 1)
	}
	for _, n := range []int{1025, 1026, 1027, 1028, 2000, 5000} {
		wantEach(t, api.ErrHead, nil, padded(n-4)+end+"a")
		wantEach(t, api.ErrHead, []string{"a"}, message("a")+padded(n-4)+end+"a")
	}
	wantDeath(t, api.ErrHead, strings.Repeat("a", 1024))
	wantDeath(t, api.ErrHead, strings.Repeat("\r", 1024))
	wantDeath(t, api.ErrHead, strings.Repeat("\n", 1024))
	wantDeath(t, api.ErrHead, strings.Repeat("a\r\n", 341)+"a") // what is wrong is not decided before
	wantDeath(t, api.ErrHead, strings.Repeat("a", 1020)+end)
	wantDeath(t, api.ErrHead, "Content-Length: 262145\r\nX: "+strings.Repeat("y", 1024-27)) // it has not ended: no ErrBody
	wantDeath(t, api.ErrBody, "Content-Length: 262145\r\nX: "+strings.Repeat("y", 1024-31)+end)
}

func TestEachHeadHasItsOwnBytes(t *testing.T) { // P5.1
	long := padded(1020) + end
	var messages []string
	for range 20 {
		messages = append(messages, "a", strings.Repeat("b", 3000))
	}
	wantEach(t, api.OK, messages, strings.Repeat(long+"a"+message(messages[1]), 20)+padded(1023))
	wantEach(t, api.ErrHead, messages, strings.Repeat(long+"a"+message(messages[1]), 20)+padded(1024))
}

func TestLongBodies(t *testing.T) { // P5.1
	const most = api.MaxJSON
	long := strings.Repeat("\r\nab", most/4)
	for _, head := range []string{"Content-Length: 262144" + end, "Content-Length: 000000000000000000000262144" + end} {
		want(t, api.OK, []string{long, "x"}, head+long+message("x"))
		want(t, api.OK, []string{long, "x"}, cutBy(head+long+message("x"), 1)...)
		want(t, api.OK, []string{long, "x"}, cutBy(head+long+message("x"), 1000)...)
		want(t, api.OK, nil, head+long[1:])
		want(t, api.OK, []string{long[1:] + "C"}, head+long[1:], "C")
	}
	for _, n := range []string{
		"262145", "0262145", "262150", "262999", "300000", "1000000", "2147483648", "4294967296", "4294967297", "9223372036854775807", "9223372036854775808", "18446744073709551616", "18446744073709551617",
		"18446744073709551618", "99999999999999999999", "340282366920938463463374607431768211457", "1" + strings.Repeat("0", 900), strings.Repeat("9", 900), strings.Repeat("0", 450) + strings.Repeat("1", 450),
	} {
		wantDeath(t, api.ErrBody, "Content-Length: "+n+end)
		wantDeath(t, api.ErrBody, "X: y\r\ncontent-length:"+n+" \r\nZ:"+end)
		wantDeath(t, api.ErrHead, "Content-Length: "+n+"\r\nX"+end) // no head that is well-formed
	}
}

func TestFeedTellsTheDeathOnce(t *testing.T) { // P5.1, P5.2
	for head, dead := range map[string]api.Errno{"\r\n": api.ErrHead, strings.Repeat("x", 1024): api.ErrHead, "Content-Length: 262145" + end: api.ErrBody} {
		r := New()
		if e := r.Feed([]byte(message("a") + message("b"))); e != api.OK || r.Dead() != api.OK {
			t.Errorf("Feed of messages: %d, %d", e, r.Dead())
		}
		if e := r.Feed([]byte(message("") + message("c") + head + message("no"))); e != dead || r.Dead() != dead {
			t.Errorf("Feed of %.30q: %d, %d", head, e, r.Dead())
		}
		for _, messages := range [][]string{{"a", "b"}, {"", "c"}} {
			for _, piece := range [][]byte{nil, {}, []byte("x"), []byte(message("no")), []byte("\r\n"), []byte(strings.Repeat("y", 2000))} {
				if e := r.Feed(piece); e != api.ErrDead || r.Dead() != dead {
					t.Errorf("Feed(%.20q) behind a death of %d: %d, %d", piece, dead, e, r.Dead())
				}
			}
			for _, m := range messages {
				if body, ok := r.Next(); body != m || !ok {
					t.Errorf("Next behind a death: %q, %v, not %q", body, ok, m)
				}
			}
		}
		if body, ok := r.Next(); body != "" || ok || r.Dead() != dead {
			t.Errorf("Next behind all: %q, %v, %d", body, ok, r.Dead())
		}
	}
}

func TestEmptyPieces(t *testing.T) { // P5.1
	r := New()
	for _, c := range []byte("A: b\r\nContent-Length: 2\r\n\r\nab") {
		for _, piece := range [][]byte{nil, {}, {c}, nil, {}} {
			if e := r.Feed(piece); e != api.OK {
				t.Fatalf("Feed(%q): %d", piece, e)
			}
		}
	}
	if got := rest(r); !slices.Equal(got, []string{"ab"}) {
		t.Errorf("%q", got)
	}
}

func TestNextAsMessagesCome(t *testing.T) { // P5.2
	r := New()
	next, told := 0, 0
	for _, n := range []int{1, 0, 5, 1, 0, 0, 17, 3, 100} {
		for range n {
			r.Feed([]byte(message(strconv.Itoa(told))))
			told++
		}
		for range n/2 + 1 {
			body, ok := r.Next()
			if next == told && (body != "" || ok) || next < told && (body != strconv.Itoa(next) || !ok) {
				t.Fatalf("Next: %q, %v; %d of %d", body, ok, next, told)
			}
			if ok {
				next++
			}
		}
	}
	if left := rest(r); len(left) != told-next || left[len(left)-1] != strconv.Itoa(told-1) {
		t.Errorf("%d are left, not %d", len(left), told-next)
	}
}

func TestManyMessages(t *testing.T) { // P5.2, P5.5
	var input strings.Builder
	var messages []string
	for i := range 100000 {
		messages = append(messages, strconv.Itoa(i)[i%2:])
		input.WriteString(Write(messages[i]))
	}
	want(t, api.OK, messages, input.String())
	want(t, api.OK, messages, cutBy(input.String(), 5)...)
	want(t, api.ErrHead, messages, input.String()+"\r\n"+message("no"))
}

// wantNil asks for what a call answers on a nil reader, or on one that New did not return.
func wantNil(t *testing.T, what string, r *Reader) {
	t.Helper()
	for _, piece := range [][]byte{nil, {}, []byte("\r\n"), []byte(message("a"))} {
		if e := r.Feed(piece); e != api.ErrNil {
			t.Errorf("Feed of %s: %d", what, e)
		}
		if body, ok := r.Next(); body != "" || ok {
			t.Errorf("Next of %s: %q, %v", what, body, ok)
		}
		if e := r.Dead(); e != api.ErrNil {
			t.Errorf("Dead of %s: %d", what, e)
		}
	}
}

func TestReadersThatNewDidNotReturn(t *testing.T) { // P5.1, P5.2, P0.1
	wantNil(t, "nil", nil)
	wantNil(t, "a zero Reader", &Reader{})
	wantNil(t, "a new Reader", new(Reader))
	var outer struct{ Reader }
	wantNil(t, "a Reader inside", &outer.Reader)
	r := New()
	r.Feed([]byte(message("a") + message("b") + "Content-Len"))
	c := *r
	wantNil(t, "a copy", &c)
	r.Feed([]byte("gth: 1" + end + "c"))
	if got := rest(r); !slices.Equal(got, []string{"a", "b", "c"}) || r.Dead() != api.OK {
		t.Errorf("a reader of which there is a copy: %q, %d", got, r.Dead())
	}
	r.Feed([]byte("\r\n"))
	c = *r
	wantNil(t, "a dead one's copy", &c)
}

func TestReadersAreApart(t *testing.T) { // P5.1, P5.2
	a, b, c := New(), New(), New()
	first, second := message("abc")+message("d"), message("xy")+message("z")
	for i := range first[:20] {
		a.Feed([]byte{first[i]})
		b.Feed([]byte{second[i]})
	}
	if e := c.Feed([]byte("\r\n")); e != api.ErrHead || a.Dead() != api.OK || b.Dead() != api.OK {
		t.Errorf("a death: %d, and of the others: %d, %d", e, a.Dead(), b.Dead())
	}
	a.Feed([]byte(first[20:]))
	b.Feed([]byte(second[20:]))
	if got, other := rest(a), rest(b); !slices.Equal(got, []string{"abc", "d"}) || !slices.Equal(other, []string{"xy", "z"}) || rest(c) != nil {
		t.Errorf("%q, %q", got, other)
	}
}

func TestWrite(t *testing.T) { // P5.3
	for body, written := range map[string]string{
		"": "Content-Length: 0\r\n\r\n", "{}": "Content-Length: 2\r\n\r\n{}", "é": "Content-Length: 2\r\n\r\né", "\U0001F600": "Content-Length: 4\r\n\r\n\U0001F600",
		"\xff\x00": "Content-Length: 2\r\n\r\n\xff\x00", "\r\n": "Content-Length: 2\r\n\r\n\r\n", "0123456789": "Content-Length: 10\r\n\r\n0123456789",
	} {
		if got := Write(body); got != written {
			t.Errorf("Write(%q): %q", body, got)
		}
	}
	for _, n := range []int{9, 10, 99, 100, 12345, api.MaxJSON, api.MaxJSON + 1, 4 * api.MaxJSON} {
		body := strings.Repeat("\xfe", n)
		if got := Write(body); got != "Content-Length: "+strconv.Itoa(n)+"\r\n\r\n"+body {
			t.Errorf("Write of %d bytes: %.40q", n, got)
		}
	}
}

func TestRoundTrip(t *testing.T) { // P5.5
	bodies := []string{"", "", "{}", "\r\n\r\n", Write("a"), Write(""), "\x00\xff\xfe", "é\U0001F600", strings.Repeat("a", api.MaxJSON), "", strings.Repeat("\r\n", api.MaxJSON/2), "Content-Length: 1", "last"}
	var input strings.Builder
	for _, b := range bodies {
		input.WriteString(Write(b))
	}
	want(t, api.OK, bodies, input.String())
	for _, n := range []int{1, 2, 17, 1000, 4096} {
		want(t, api.OK, bodies, cutBy(input.String(), n)...)
	}
	want(t, api.ErrBody, bodies, input.String()+Write(strings.Repeat("a", api.MaxJSON+1))+Write("no"))
	pieces := []string{"", "a", "\r\n", "\n", "\xff", "Content-Length: 0\r\n\r\n"}
	eachText(pieces, 3, func(s string) {
		wantEach(t, api.OK, []string{s, s + s, "x"}, Write(s)+Write(s+s)+Write("x")+"Content")
	})
}

// TestAgainstReference holds messages and deaths against the reference, whatever the pieces: P5.1, P5.2, P5.4.
func TestAgainstReference(t *testing.T) {
	check := func(input string) {
		messages, dead := expected(input)
		want(t, dead, messages, input)
		want(t, dead, messages, cutBy(input, 1)...)
		for i := range len(input) + 1 {
			want(t, dead, messages, input[:i], input[i:])
		}
		if t.Failed() {
			t.FailNow()
		}
	}
	eachText([]string{"Content-Length: 1\r\n", "content-length:\t0 ", "Content-Length: 262145", "\r\n", "\r", "\n", "A: b", ":", " "}, 4, check)
	eachText([]string{"Content-Length: 1", "\r\n", "\r", "\n", ":"}, 6, check)
	eachText([]string{"Content-Length: 2\r\n\r\n", "Content-Length: 00" + end, "\r\n", "x"}, 6, check)
	line := []string{"1", "0", " ", "\t", "-", "9999999999", "x", "\r", "\n", "\xff"}
	eachText(line, 3, func(s string) { check("Content-Length:" + s + end + "ab") })
	eachText([]string{":", " ", "x", "\t", "\x00", "~", "\x7f", "\r", "\n", "\xe9"}, 3, func(s string) { check(s + "\r\ncontent-length: 1" + end + "ab") })
}

func TestHeadsOfEachLengthAgainstReference(t *testing.T) { // P5.1, P5.4
	for n := 990; n <= 1030; n++ {
		for _, last := range []string{"", "\r", "\r\n", "\r\n\r", end, end + "a", "\nx" + end, "\r\r\n" + end, "\r\ncontent-length: 1" + end} {
			input := padded(n) + last
			messages, dead := expected(input)
			want(t, dead, messages, input)
			want(t, dead, messages, cutBy(input, 1)...)
			for i := 1000; i <= len(input); i++ {
				want(t, dead, messages, input[:i], input[i:])
			}
		}
	}
}

// TestPiecesStay has pieces with memory behind their ends, and asks that nothing there or in them is changed, nor kept by the reader.
func TestPiecesStay(t *testing.T) { // P0.4, P5.1
	input := "X: y\r\n" + message("abc") + message("") + message("defg")
	for size := 1; size <= len(input)+1; size++ {
		r := New()
		memory := make([]byte, size+8)
		for _, piece := range cutBy(input, size) {
			for i := range memory {
				memory[i] = '#'
			}
			copy(memory, piece)
			before := string(memory)
			if e := r.Feed(memory[:len(piece)]); e != api.OK || string(memory) != before {
				t.Fatalf("Feed(%q): %d, and the memory is %q", piece, e, memory)
			}
			for i := range memory {
				memory[i] = '!'
			}
		}
		if got := rest(r); !slices.Equal(got, []string{"abc", "", "defg"}) {
			t.Fatalf("in pieces of %d bytes that are changed then: %q", size, got)
		}
	}
}
