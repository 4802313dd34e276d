package tree

import (
	"slices"
	"testing"

	"glossator/api"
)

// roomy is a tree whose lists of kids, those of leaves too, have room behind them that nobody may write to.
func roomy(n api.Node) api.Node {
	kids := make([]api.Node, len(n.Kids)+2)
	for i, kid := range n.Kids {
		kids[i] = roomy(kid)
	}
	kids[len(n.Kids)], kids[len(n.Kids)+1] = leaf(250, -7), leaf(251, -8)
	n.Kids = kids[:len(n.Kids)]
	return n
}

// whole is a tree with what stands in its room.
func whole(n api.Node) string {
	all := ""
	for _, e := range entries(n) {
		for _, m := range e.node.Kids[:cap(e.node.Kids)] {
			all += written(api.Node{Kind: m.Kind, Want: m.Want, Width: m.Width}) + " "
		}
		all += "; "
	}
	return written(n) + "; " + all
}

// askAll has every call for a tree.
func askAll(n api.Node) {
	Right(n)
	Same(n, n)
	Same(n, clone(n))
	for range Walk(n) {
	}
	Leaves(n)
	Print(n)
	Fits(n, tokens(entries(n)))
	for offset := -1; offset <= n.Width+1; offset++ {
		Get(n, At(n, offset))
	}
	for _, e := range entries(n) {
		Get(n, e.path)
	}
}

// TestTreesStay has all calls leave the trees as they are, valid or not.
func TestTreesStay(t *testing.T) { // P0.4
	for _, n := range programs() {
		n = roomy(n)
		was := whole(n)
		askAll(n)
		if whole(n) != was {
			t.Fatalf("%s has become %s", was, whole(n))
		}
		wantTree(t, n)
	}
	small(3, func(n api.Node) {
		n = roomy(n)
		was := whole(n)
		askAll(n)
		if whole(n) != was {
			t.Fatalf("%s has become %s", was, whole(n))
		}
	})
}

// TestListsStay has Fits and Get leave the tokens and the path as they are, and what stands behind them.
func TestListsStay(t *testing.T) { // P0.4
	for _, n := range programs() {
		all := entries(n)
		l := append(tokens(all), api.Token{Kind: 99, Width: 98, Look: 97}, api.Token{Kind: 96})
		was := slices.Clone(l)
		for to := range len(l) + 1 {
			Fits(n, l[:to])
			if !slices.Equal(l, was) {
				t.Fatalf("%v has become %v", was, l)
			}
		}
		for _, e := range all {
			path := append(slices.Clone(e.path), 5, -3)
			was := slices.Clone(path)
			for to := range len(path) + 1 {
				Get(n, path[:to])
				if !slices.Equal(path, was) {
					t.Fatalf("%v has become %v", was, path)
				}
			}
		}
	}
}

// TestOwnLists overwrites what Leaves and At tell, up to its capacity.
func TestOwnLists(t *testing.T) { // P0.4
	for _, n := range programs() {
		n = roomy(n)
		was := whole(n)
		first, second := Leaves(n), Leaves(n)
		kept := slices.Clone(second)
		clear(first[:cap(first)])
		if !slices.EqualFunc(second, kept, func(a, b api.Node) bool { return written(a) == written(b) }) {
			t.Fatalf("leaves that were told have become %v", second)
		}
		for offset := range n.Width {
			a, b := At(n, offset), At(n, offset)
			kept := slices.Clone(b)
			a = a[:cap(a)]
			for i := range a {
				a[i] = -9
			}
			if !slices.Equal(b, kept) || !slices.Equal(At(n, offset), kept) {
				t.Fatalf("a path that was told has become %v", b)
			}
		}
		if whole(n) != was {
			t.Fatalf("%s has become %s", was, whole(n))
		}
		wantTree(t, n)
	}
}
