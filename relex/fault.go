package relex

import "glossator/api"

const (
	mostTokens = 1 << 20
	mostBytes  = 1 << 40 // of a token's Width, and of its Look
)

// fault is the error that P13.1 asks for: the tokens' ahead of the spans'.
func fault(was []api.Token, text string, old, now api.Span) api.Errno {
	long, ok := measure(was)
	if !ok {
		return api.ErrTokens
	}
	if !lies(old, long) || !lies(now, len(text)) || old.From != now.From || long-old.To != len(text)-now.To {
		return api.ErrArg
	}
	return api.OK
}

// measure tells how many bytes the tokens have together; so many of them, of such Widths, that the sum is an int.
func measure(l []api.Token) (long int, ok bool) {
	if len(l) > mostTokens {
		return 0, false
	}
	for _, t := range l {
		if t.Width < 1 || t.Width > mostBytes || t.Look < 0 || t.Look > mostBytes {
			return 0, false
		}
		long += t.Width
	}
	return long, true
}

// lies tells whether a span is one of a text of so many bytes.
func lies(s api.Span, long int) bool { return 0 <= s.From && s.From <= s.To && s.To <= long }
