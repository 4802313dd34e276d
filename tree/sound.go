package tree

import (
	"glossator/api"
	"glossator/lex"
)

// What a valid tree has at most.
const (
	mostNodes  = 1 << 20
	mostLevels = 1 << 16
	mostWidth  = 1 << 40
)

// isSound tells whether a node by itself is a leaf or an inner node.
func isSound(n api.Node) bool {
	switch {
	case isToken(n.Kind):
		return n.Want == 0 && 1 <= n.Width && n.Width <= mostWidth && len(n.Kids) == 0
	case n.Kind == api.NkMissing:
		return n.Width == 0 && len(n.Kids) == 0 && mayMiss(n.Want)
	case isInner(n.Kind):
		return n.Want == 0 && isSum(n.Width, n.Kids)
	}
	return false
}

// isToken tells whether a number is the kind of a token. There is a gap behind the keywords' kinds.
func isToken(kind uint8) bool {
	return api.TkBlank <= kind && kind <= api.TkFalse || api.TkLeft <= kind && kind <= api.TkOr
}

func isInner(kind uint8) bool { return api.NkFile <= kind && kind <= api.NkError }

// mayMiss tells whether something of a kind may be missing.
func mayMiss(want uint8) bool {
	return lex.Counts(want) || want == api.NkExpr || want == api.NkBlock
}

// isSum tells whether a width is that of the kids together, and not too great.
func isSum(width int, kids []api.Node) bool {
	sum := 0
	for _, kid := range kids {
		// A Width is held against what is left ahead of the sum, which could wrap round.
		if kid.Width < 0 || kid.Width > mostWidth-sum {
			return false
		}
		sum += kid.Width
	}
	return sum == width
}
