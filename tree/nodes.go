package tree

import (
	"iter"

	"glossator/api"
)

// where is the place of a node: its span, and how many nodes are above it.
type where struct {
	span  api.Span
	above int
}

// nodes are those of a tree in preorder, each with its place. They have no end where a node contains itself, so nobody but Right asks for those of any tree.
func nodes(n api.Node) iter.Seq2[where, api.Node] {
	return func(yield func(where, api.Node) bool) {
		var visit func(n api.Node, from, above int) bool
		visit = func(n api.Node, from, above int) bool {
			if !yield(where{api.Span{From: from, To: from + n.Width}, above}, n) {
				return false
			}
			for _, kid := range n.Kids {
				if !visit(kid, from, above+1) {
					return false
				}
				from += kid.Width
			}
			return true
		}
		visit(n, 0, 0)
	}
}
