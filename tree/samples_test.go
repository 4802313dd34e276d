package tree

import (
	"math"
	"math/rand/v2"
	"slices"

	"glossator/api"
)

func leaf(kind uint8, width int) api.Node { return api.Node{Kind: kind, Width: width} }

func missing(want uint8) api.Node { return api.Node{Kind: api.NkMissing, Want: want} }

// inner is a node with the Width of its kids.
func inner(kind uint8, kids ...api.Node) api.Node {
	n := api.Node{Kind: kind, Kids: kids}
	for _, kid := range kids {
		n.Width += kid.Width
	}
	return n
}

// chapterTree is the chapter's T, the tree of `let a=;`.
func chapterTree() api.Node {
	return inner(api.NkFile, inner(api.NkLet,
		leaf(api.TkLet, 3), leaf(api.TkBlank, 1), leaf(api.TkName, 1), leaf(api.TkAssign, 1), missing(api.NkExpr), leaf(api.TkSemi, 1)))
}

// programs are trees of texts, each with its text.
func programs() map[string]api.Node {
	use := func() api.Node { return inner(api.NkUse, leaf(api.TkName, 1)) }
	plain := func(kind uint8, width int) api.Node { return inner(api.NkPlain, leaf(kind, width)) }
	blank := func() api.Node { return leaf(api.TkBlank, 1) }
	return map[string]api.Node{
		"":        inner(api.NkFile),
		" ":       inner(api.NkFile, blank()),
		"let a=;": chapterTree(),
		"while {": inner(api.NkFile, inner(api.NkWhile, leaf(api.TkWhile, 5), missing(api.NkExpr), blank(), inner(api.NkBlock, leaf(api.TkBegin, 1), missing(api.TkEnd)))),
		"if a":    inner(api.NkFile, inner(api.NkIf, leaf(api.TkIf, 2), blank(), inner(api.NkExpr, use()), missing(api.NkBlock))),
		") # x;//": inner(api.NkFile, inner(api.NkError, leaf(api.TkRight, 1)), blank(), leaf(api.TkOdd, 1), blank(),
			inner(api.NkDo, inner(api.NkExpr, use()), leaf(api.TkSemi, 1)), leaf(api.TkLine, 2)),
		"fn f(a,){return}": inner(api.NkFile, inner(api.NkFn, leaf(api.TkFn, 2), blank(), leaf(api.TkName, 1),
			inner(api.NkParams, leaf(api.TkLeft, 1), leaf(api.TkName, 1), leaf(api.TkComma, 1), missing(api.TkName), leaf(api.TkRight, 1)),
			inner(api.NkBlock, leaf(api.TkBegin, 1), inner(api.NkReturn, leaf(api.TkReturn, 6), missing(api.TkSemi)), leaf(api.TkEnd, 1)))),
		"-a(\"t\",(1))*true == b;\n/*": inner(api.NkFile, inner(api.NkDo, inner(api.NkExpr, inner(api.NkBinary,
			inner(api.NkBinary,
				inner(api.NkUnary, leaf(api.TkMinus, 1), inner(api.NkCall, use(), inner(api.NkArgs, leaf(api.TkLeft, 1),
					inner(api.NkExpr, plain(api.TkText, 3)), leaf(api.TkComma, 1),
					inner(api.NkExpr, inner(api.NkGroup, leaf(api.TkLeft, 1), inner(api.NkExpr, plain(api.TkInt, 1)), leaf(api.TkRight, 1))),
					leaf(api.TkRight, 1)))),
				leaf(api.TkTimes, 1), plain(api.TkTrue, 4)),
			blank(), leaf(api.TkEqual, 2), blank(), use())), leaf(api.TkSemi, 1)), blank(), leaf(api.TkOpen, 2)),
	}
}

// clone is a tree in memory of its own, its lists of kids without room behind them.
func clone(n api.Node) api.Node {
	if n.Kids == nil {
		return n
	}
	kids := make([]api.Node, len(n.Kids))
	for i, kid := range n.Kids {
		kids[i] = clone(kid)
	}
	n.Kids = kids
	return n
}

// at is the node at the end of a path.
func at(n *api.Node, path []int) *api.Node {
	for _, i := range path {
		n = &n.Kids[i]
	}
	return n
}

// changed calls f with a tree for each way to change one number of one node, or its kids, and tells what was changed. The Widths above stay as they were.
func changed(n api.Node, f func(what string, n api.Node)) {
	for _, e := range entries(n) {
		change := func(what string, by func(m *api.Node)) {
			other := clone(n)
			by(at(&other, e.path))
			f(what+" at "+key(e.path), other)
		}
		for kind := range 256 {
			if uint8(kind) != e.node.Kind {
				change("Kind", func(m *api.Node) { m.Kind = uint8(kind) })
			}
			if uint8(kind) != e.node.Want {
				change("Want", func(m *api.Node) { m.Want = uint8(kind) })
			}
		}
		for _, width := range widths() {
			if width != e.node.Width {
				change("Width", func(m *api.Node) { m.Width = width })
			}
		}
		for _, more := range []int{-1, 1} {
			change("Width", func(m *api.Node) { m.Width += more })
		}
		for i := range len(e.node.Kids) + 1 {
			change("one more kid", func(m *api.Node) { m.Kids = slices.Insert(m.Kids, i, missing(api.TkSemi)) })
			change("one more kid", func(m *api.Node) { m.Kids = slices.Insert(m.Kids, i, leaf(api.TkName, 1)) })
			if i < len(e.node.Kids) {
				change("one kid fewer", func(m *api.Node) { m.Kids = slices.Delete(m.Kids, i, i+1) })
			}
		}
	}
}

// widths are those at which something changes.
func widths() []int {
	return []int{math.MinInt, math.MinInt + 1, -1 << 40, -2, -1, 0, 1, 2, 1<<31 - 1, 1 << 32, 1<<40 - 1, 1 << 40, 1<<40 + 1, 1 << 62, math.MaxInt - 1, math.MaxInt}
}

// far are numbers far outside of any tree, among them those that wrap round to small ones in fewer bits.
func far() []int {
	l := []int{math.MinInt, math.MinInt + 1, math.MaxInt - 1, math.MaxInt}
	for _, bits := range []int{8, 16, 31, 32, 33, 40, 41, 62} {
		for n := -1; n < 3; n++ {
			l = append(l, 1<<bits+n, -1<<bits+n)
		}
	}
	return l
}

// grown is a valid tree of about so many nodes below a node of a kind, made at random.
func grown(random *rand.Rand, kind uint8, many int) api.Node {
	var kids []api.Node
	for many > 0 {
		part := 1 + random.IntN(many)
		many -= part
		switch random.IntN(6) {
		case 0:
			kids = append(kids, missing([]uint8{api.NkExpr, api.NkBlock, api.TkName, api.TkSemi, api.TkEnd, api.TkOr}[random.IntN(6)]))
		case 1, 2:
			kids = append(kids, leaf(tokenKinds()[random.IntN(38)], 1+random.IntN(4)))
		default:
			kids = append(kids, grown(random, api.NkBlock+uint8(random.IntN(17)), part-1))
		}
	}
	return inner(kind, kids...)
}

// tokenKinds are those of tokens, 38.
func tokenKinds() []uint8 {
	var l []uint8
	for kind := range 256 {
		if tokenKind(uint8(kind)) {
			l = append(l, uint8(kind))
		}
	}
	return l
}

// small calls f with trees of at most so many nodes: a node without kids is one of eight, two of them wrong; one with kids is a File or a Block, and in the least trees also one that is too wide, a name, or a missing leaf.
func small(many int, f func(n api.Node)) {
	for nodes := 1; nodes <= many; nodes++ {
		eachTree(nodes, f)
	}
}

// eachTree calls f with the trees of just so many nodes.
func eachTree(nodes int, f func(n api.Node)) {
	if nodes == 1 {
		for _, n := range []api.Node{leaf(api.TkName, 1), leaf(api.TkBlank, 2), missing(api.NkExpr), missing(api.TkSemi), inner(api.NkFile), inner(api.NkArgs), leaf(api.TkSemi, 0), missing(api.TkOdd)} {
			f(n)
		}
		return
	}
	eachRow(nodes-1, nil, func(kids []api.Node) {
		f(inner(api.NkFile, slices.Clone(kids)...))
		f(inner(api.NkBlock, slices.Clone(kids)...))
		if nodes < 4 {
			wide := inner(api.NkUse, slices.Clone(kids)...)
			wide.Width++
			f(wide)
			f(inner(api.TkName, slices.Clone(kids)...))
			f(inner(api.NkMissing, slices.Clone(kids)...))
		}
	})
}

// eachRow calls f with the rows of trees of just so many nodes together.
func eachRow(nodes int, ahead []api.Node, f func(row []api.Node)) {
	if nodes == 0 {
		f(ahead)
	}
	for first := 1; first <= nodes; first++ {
		eachTree(first, func(n api.Node) {
			eachRow(nodes-first, append(ahead, n), f)
		})
	}
}

// chain is a tree of so many levels: blocks in blocks, in the last one another node.
func chain(levels int, last api.Node) api.Node {
	n := last
	for range levels - 1 {
		n = inner(api.NkBlock, n)
	}
	return n
}

// doubled is a tree of so many levels in which each node but the last ones has the same two kids, in the same memory.
func doubled(levels int, last api.Node) api.Node {
	n := last
	for range levels - 1 {
		n = inner(api.NkBinary, n, n)
	}
	return n
}

// knot is a node that contains itself, so many levels down.
func knot(kind uint8, levels int, beside ...api.Node) api.Node {
	top := make([]api.Node, 1+len(beside))
	copy(top[1:], beside)
	n := api.Node{Kind: kind, Kids: top}
	for range levels - 1 {
		n = api.Node{Kind: kind, Kids: append([]api.Node{n}, beside...)}
	}
	top[0] = n
	return n
}
