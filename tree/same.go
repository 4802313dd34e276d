package tree

import "glossator/api"

// pair is two lists of equally many kids, by their first ones.
type pair struct {
	a, b *api.Node
	many int
}

// lists are two lists of equally many nodes.
type lists struct{ a, b []api.Node }

func (l lists) pair() pair { return pair{&l.a[0], &l.b[0], len(l.a)} }

// Same: P15.1. The nodes may be any, so also deeper than calls may be, and such as contain themselves: two lists that have been met once are not gone over again.
func Same(a, b api.Node) bool {
	due := []lists{{[]api.Node{a}, []api.Node{b}}}
	met := map[pair]struct{}{}
	for len(due) > 0 {
		last := len(due) - 1
		l := due[last]
		due = due[:last]
		if _, ok := met[l.pair()]; ok {
			continue
		}
		met[l.pair()] = struct{}{}
		for i, x := range l.a {
			y := l.b[i]
			if !isAlike(x, y) {
				return false
			}
			if len(x.Kids) > 0 {
				due = append(due, lists{x.Kids, y.Kids})
			}
		}
	}
	return true
}

// isAlike tells whether two nodes are the same, but for what their kids are.
func isAlike(a, b api.Node) bool {
	return a.Kind == b.Kind && a.Want == b.Want && a.Width == b.Width && len(a.Kids) == len(b.Kids)
}
