package rope

import (
	"strings"

	"glossator/api"
	"glossator/lines"
)

// Start: P9.4.
func (r *Rope) Start(line int) (int, bool) {
	if r == nil || line < 0 || line > r.Breaks() {
		return 0, false
	}
	// A line behind a byte 13 begins one byte later if a byte 10 follows: that is for the next leaf to tell.
	ahead, text := find(r.root, func(upTo counts) bool {
		return line < upTo.breaks || line == upTo.breaks && !upTo.back
	})
	n := line - ahead.breaks
	if ahead.back && strings.HasPrefix(text, "\n") { // the leaf's first line end was counted ahead of it
		n++
	}
	content, _ := lines.Line(text, n)
	return ahead.bytes + content.From, true
}

// content is the span of a line's content, and false if there is no such line.
func (r *Rope) content(line int) (api.Span, bool) {
	from, ok := r.Start(line)
	if !ok {
		return api.Span{}, false
	}
	next, ok := r.Start(line + 1)
	if !ok {
		return api.Span{From: from, To: r.Len()}, true
	}
	to := next - 1
	if to > from && before(r.root, to).back {
		to--
	}
	return api.Span{From: from, To: to}, true
}

// Offset: P9.4.
func (r *Rope) Offset(p api.Pos) int {
	content, ok := r.content(max(p.Line, 0))
	if !ok {
		return r.Len()
	}
	char := max(min(p.Char, r.Units()), 0) // below 0 counts as 0, and the greatest must not wrap round in the sum
	return min(cut(r.root, before(r.root, content.From).units+char), content.To)
}

// Pos: P9.4.
func (r *Rope) Pos(at int) api.Pos {
	n := r.tree()
	at = begin(n, at)
	line := before(n, at).breaks
	if start, _ := r.Start(line); start > at { // between 13 and 10
		line--
	}
	content, _ := r.content(line)
	return api.Pos{Line: line, Char: before(n, min(at, content.To)).units - before(n, content.From).units}
}
