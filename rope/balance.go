package rope

import (
	"strings"

	"glossator/api"
	"glossator/utf"
)

// The depths of an inner node's two sides differ by one at most, so a tree of n leaves is at most 1 + 1.45 times the binary logarithm of n deep, however it was made.

// most is how many bytes a leaf has at most: few enough that to scan it is cheap.
const most = 64

// spliced is the tree of the text after an edit. What stands within half a leaf around the edit is built anew with it, so that no edits leave ever smaller leaves behind.
func spliced(n node, e api.Edit) node {
	ahead, _ := leafAt(n, e.From-most/2)
	last, text := leafAt(n, e.To+most/2)
	from, to := ahead.bytes, last.bytes+len(text)
	var b strings.Builder
	write(&b, n, from, e.From)
	b.WriteString(e.Text)
	write(&b, n, e.To, to)
	left, _ := split(n, from)
	_, right := split(n, to)
	return join(join(left, grown(b.String())), right)
}

// grown is the tree of a text.
func grown(s string) node {
	if s == "" {
		return nil
	}
	if len(s) <= most {
		// A copy, since a part of a string would keep the whole string alive.
		return &leaf{measure(s), strings.Clone(s)}
	}
	half := utf.Begin(s, len(s)/2)
	return join(grown(s[:half]), grown(s[half:]))
}

// split divides a tree at an offset between two leaves.
func split(n node, offset int) (left, right node) {
	if offset == 0 {
		return nil, n
	}
	x, ok := n.(*inner)
	if !ok || offset == x.bytes {
		return n, nil
	}
	half := x.left.whole().bytes
	if offset < half {
		left, right = split(x.left, offset)
		return left, join(right, x.right)
	}
	left, right = split(x.right, offset-half)
	return join(x.left, left), right
}

// join is the tree of two trees' texts, one after the other. It is as deep as the deeper one, or by one deeper.
func join(left, right node) node {
	if left == nil {
		return right
	}
	if right == nil {
		return left
	}
	if x, ok := left.(*inner); ok && x.depth > depth(right)+1 {
		return level(x.left, join(x.right, right))
	}
	if x, ok := right.(*inner); ok && x.depth > depth(left)+1 {
		return level(join(left, x.left), x.right)
	}
	return pair(left, right)
}

// level makes an inner node of trees whose depths differ by two at most.
func level(left, right node) node {
	if x, ok := left.(*inner); ok && x.depth > depth(right)+1 {
		if y, ok := x.right.(*inner); ok && y.depth > depth(x.left) {
			return pair(pair(x.left, y.left), pair(y.right, right))
		}
		return pair(x.left, pair(x.right, right))
	}
	if x, ok := right.(*inner); ok && x.depth > depth(left)+1 {
		if y, ok := x.left.(*inner); ok && y.depth > depth(x.right) {
			return pair(pair(left, y.left), pair(y.right, x.right))
		}
		return pair(pair(left, x.left), x.right)
	}
	return pair(left, right)
}

func pair(left, right node) node {
	return &inner{add(left.whole(), right.whole()), 1 + max(depth(left), depth(right)), left, right}
}
