package frame

import (
	"math/big"
	"regexp"
	"strings"

	"glossator/api"
)

// The reference: the messages of an input, and what a reader dies of, in the words of the chapter. It has the whole input at hand, and shares nothing with the package.

var (
	wellFormed = regexp.MustCompile(`^([!-9;-~]+):[ \t]*([^\r\n]*?)[ \t]*$`)
	someDigits = regexp.MustCompile(`^[0-9]+$`)
)

// expected is the messages of an input, and what a reader that it is fed to has died of.
func expected(input string) ([]string, api.Errno) {
	var messages []string
	for {
		head, ended := headOf(input)
		if len(head) > 1024 || !ended && len(head) == 1024 {
			return messages, api.ErrHead
		}
		if !ended {
			return messages, api.OK
		}
		size := sizeOf(head)
		if size == nil {
			return messages, api.ErrHead
		}
		if size.Cmp(big.NewInt(1<<18)) > 0 {
			return messages, api.ErrBody
		}
		input = input[len(head):]
		n := int(size.Int64())
		if len(input) < n {
			return messages, api.OK
		}
		messages = append(messages, input[:n])
		input = input[n:]
	}
}

// headOf is the head with which the input begins, and whether it has ended.
func headOf(input string) (string, bool) {
	n := 0
	for _, line := range strings.SplitAfter(input, "\r\n") {
		n += len(line)
		if line == "\r\n" {
			return input[:n], true
		}
	}
	return input, false
}

// sizeOf is the number in a head that has ended, nil if the head is not well-formed.
func sizeOf(head string) *big.Int {
	var size *big.Int
	lines := strings.Split(head, "\r\n")
	for _, line := range lines[:len(lines)-2] { // behind the last but one, which is empty, there is nothing
		m := wellFormed.FindStringSubmatch(line)
		if m == nil {
			return nil
		}
		if strings.ToLower(m[1]) != "content-length" {
			continue
		}
		if size != nil || !someDigits.MatchString(m[2]) {
			return nil
		}
		size, _ = new(big.Int).SetString(m[2], 10)
	}
	return size
}

// eachText calls f with every concatenation of at most most of the pieces.
func eachText(pieces []string, most int, f func(s string)) {
	var grow func(s string, n int)
	grow = func(s string, n int) {
		f(s)
		if n == most {
			return
		}
		for _, p := range pieces {
			grow(s+p, n+1)
		}
	}
	grow("", 0)
}
