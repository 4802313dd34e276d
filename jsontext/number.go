package jsontext

import "strings"

const digits = "0123456789"

// isNumber reports whether s is a number by RFC 8259's grammar. The parser cannot be asked: it takes whitespace around a number, and none that is longer than a message.
func isNumber(s string) bool {
	rest, ok := cutInteger(s)
	if after, dot := cutAny(rest, "."); ok && dot {
		rest, ok = cutDigits(after)
	}
	if after, power := cutAny(rest, "eE"); ok && power {
		after, _ = cutAny(after, "+-")
		rest, ok = cutDigits(after)
	}
	return ok && rest == ""
}

// isInteger reports whether s is a number without a fraction and a power.
func isInteger(s string) bool {
	rest, ok := cutInteger(s)
	return ok && rest == ""
}

// cutInteger cuts a sign and digits without leading zeros off the front, and reports whether they were there.
func cutInteger(s string) (string, bool) {
	s, _ = cutAny(s, "-")
	if rest, zero := cutAny(s, "0"); zero {
		return rest, true
	}
	return cutDigits(s)
}

// cutDigits cuts all digits off the front, and reports whether there was one.
func cutDigits(s string) (string, bool) {
	rest := strings.TrimLeft(s, digits)
	return rest, len(rest) < len(s)
}

// cutAny cuts the first byte off if it is among the given ones, and reports whether it was.
func cutAny(s, among string) (string, bool) {
	if s == "" || strings.IndexByte(among, s[0]) < 0 {
		return s, false
	}
	return s[1:], true
}
