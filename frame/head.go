package frame

import (
	"strings"

	"glossator/api"
)

const (
	lineEnd = "\r\n"
	blanks  = " \t"
)

// bodySize is the number of bytes of the body that a head which has ended tells, or what the reader dies of.
func bodySize(head string) (int, api.Errno) {
	var sizes []string
	for line := range strings.SplitSeq(strings.TrimSuffix(head, lineEnd+lineEnd), lineEnd) {
		name, value, ok := cutLine(line)
		if !ok {
			return 0, api.ErrHead
		}
		if strings.EqualFold(name, "Content-Length") {
			sizes = append(sizes, value)
		}
	}
	if len(sizes) != 1 || !isNumber(sizes[0]) {
		return 0, api.ErrHead
	}
	n := atMost(sizes[0], api.MaxJSON+1)
	if n > api.MaxJSON {
		return 0, api.ErrBody
	}
	return n, api.OK
}

// cutLine is a line's name and value, and whether it is well-formed.
func cutLine(line string) (name, value string, ok bool) {
	name, value, ok = strings.Cut(line, ":")
	if !ok || !isName(name) || strings.ContainsAny(value, lineEnd) {
		return "", "", false
	}
	return name, strings.Trim(value, blanks), true
}

// isName takes no care of ':', as a line is cut at its first one.
func isName(s string) bool {
	return s != "" && !strings.ContainsFunc(s, func(c rune) bool { return c < '!' || c > '~' })
}

func isNumber(s string) bool {
	return s != "" && !strings.ContainsFunc(s, func(c rune) bool { return c < '0' || c > '9' })
}

// atMost is the number that the digits denote, or most if that is less: they may be more digits than an int has.
func atMost(digits string, most int) int {
	n := 0
	for _, c := range digits {
		n = min(10*n+int(c-'0'), most)
	}
	return n
}
