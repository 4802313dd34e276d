package rope

import (
	"strings"

	"glossator/lines"
	"glossator/utf"
)

// counts are those of a part of a text, taken for itself.
type counts struct {
	bytes, units, breaks int
	feed, back           bool // a byte 10 is its first one; a byte 13 is its last one
}

// node is a leaf or an inner node of a rope's tree. The empty text has none.
type node interface {
	whole() counts
}

// leaf is a piece of a text. A character is never divided between two of them; a line end may be.
type leaf struct {
	counts
	text string
}

type inner struct {
	counts
	depth       int
	left, right node
}

func (c counts) whole() counts { return c }

// total is the counts of a tree, which may be none.
func total(n node) counts {
	if n == nil {
		return counts{}
	}
	return n.whole()
}

func depth(n node) int {
	switch x := n.(type) {
	case *leaf:
		return 1
	case *inner:
		return x.depth
	}
	return 0
}

func measure(s string) counts {
	return counts{
		bytes:  len(s),
		units:  utf.Units(s),
		breaks: lines.Many(s) - 1,
		feed:   strings.HasPrefix(s, "\n"),
		back:   strings.HasSuffix(s, "\r"),
	}
}

// add is the counts of parts that follow one another.
func add(parts ...counts) counts {
	var all counts
	for _, c := range parts {
		if c.bytes == 0 {
			continue
		}
		if all.bytes == 0 {
			all.feed = c.feed
		}
		if all.back && c.feed { // two line ends become one
			all.breaks--
		}
		all.bytes += c.bytes
		all.units += c.units
		all.breaks += c.breaks
		all.back = c.back
	}
	return all
}

// find goes down to a leaf: to the first one for which in holds of the counts up to its end, or to the last one. It returns the counts of what is ahead of the leaf, and the leaf's text.
func find(n node, in func(upTo counts) bool) (ahead counts, text string) {
	for {
		switch x := n.(type) {
		case *inner:
			upTo := add(ahead, x.left.whole())
			if in(upTo) {
				n = x.left
			} else {
				ahead, n = upTo, x.right
			}
		case *leaf:
			return ahead, x.text
		default:
			return ahead, ""
		}
	}
}

// leafAt finds the leaf that has the byte at an offset. What is below 0 is in the first leaf, and what is beyond the end in the last one.
func leafAt(n node, offset int) (ahead counts, text string) {
	return find(n, func(upTo counts) bool { return offset < upTo.bytes })
}

// begin is utf's Begin for the tree's text.
func begin(n node, offset int) int {
	ahead, text := leafAt(n, offset)
	return ahead.bytes + utf.Begin(text, offset-ahead.bytes)
}

// before is the counts of what is before an offset of the text, taken for itself.
func before(n node, offset int) counts {
	ahead, text := leafAt(n, offset)
	return add(ahead, measure(text[:offset-ahead.bytes]))
}

// cut is utf's Cut for the tree's text.
func cut(n node, units int) int {
	ahead, text := find(n, func(upTo counts) bool { return units < upTo.units })
	return ahead.bytes + utf.Cut(text, units-ahead.units)
}

// write writes the bytes from from up to to.
func write(b *strings.Builder, n node, from, to int) {
	switch x := n.(type) {
	case *leaf:
		b.WriteString(x.text[from:to])
	case *inner:
		half := x.left.whole().bytes
		if from < half {
			write(b, x.left, from, min(to, half))
		}
		if to > half {
			write(b, x.right, max(from, half)-half, to-half)
		}
	}
}
