package tree

import (
	"math/rand/v2"
	"testing"

	"glossator/api"
)

func wantSame(t *testing.T, a, b api.Node, want bool) {
	t.Helper()
	if Same(a, b) != want || Same(b, a) != want {
		t.Fatalf("Same(%.200q, %.200q): %v, %v", written(a), written(b), Same(a, b), Same(b, a))
	}
}

// TestSamePairs has all pairs of small nodes, valid or not.
func TestSamePairs(t *testing.T) { // P15.1
	var all []api.Node
	small(3, func(n api.Node) { all = append(all, n) })
	for _, a := range all {
		for _, b := range all {
			wantSame(t, a, b, written(a) == written(b))
		}
	}
}

// TestSameChanged has nodes that differ in one place, at any depth.
func TestSameChanged(t *testing.T) { // P15.1
	for _, n := range programs() {
		wantSame(t, n, clone(n), true)
		changed(n, func(what string, other api.Node) {
			if Same(n, other) || Same(other, n) || !Same(other, other) || !Same(other, clone(other)) {
				t.Fatalf("%s: %+v, %+v", what, n, other)
			}
		})
	}
}

func TestSameGrown(t *testing.T) { // P15.1
	random := rand.New(rand.NewPCG(15, 2))
	before := api.Node{}
	for i := range 300 {
		n := grown(random, api.NkFile, i)
		wantSame(t, n, clone(n), true)
		wantSame(t, n, before, written(n) == written(before))
		all := entries(n)
		other := clone(n)
		at(&other, all[random.IntN(len(all))].path).Width++
		wantSame(t, n, other, false)
		before = n
	}
}

// TestSameEachNumber has nodes that differ in one number alone; they are not valid.
func TestSameEachNumber(t *testing.T) { // P15.1
	for a := range 256 {
		for b := range 256 {
			if Same(api.Node{Kind: uint8(a)}, api.Node{Kind: uint8(b)}) != (a == b) || Same(api.Node{Want: uint8(a)}, api.Node{Want: uint8(b)}) != (a == b) {
				t.Fatalf("%d, %d", a, b)
			}
		}
	}
	for _, a := range append(far(), widths()...) {
		for _, b := range append(far(), widths()...) {
			wantSame(t, api.Node{Width: a}, api.Node{Width: b}, a == b)
			wantSame(t, inner(api.NkUse, api.Node{Width: a}), inner(api.NkUse, api.Node{Width: b}), a == b)
		}
	}
	wantSame(t, api.Node{}, api.Node{Kids: []api.Node{}}, true)
	wantSame(t, api.Node{}, api.Node{Kids: make([]api.Node, 0, 3)}, true)
	wantSame(t, api.Node{}, api.Node{Kids: []api.Node{{}}}, false)
}

// TestSameShared has lists that begin at one place of the memory, but are not equally long, or stand beside others.
func TestSameShared(t *testing.T) { // P15.1
	kids := []api.Node{missing(api.TkName), missing(api.TkSemi), missing(api.TkName)}
	list := func(to int) api.Node { return api.Node{Kind: api.NkUse, Kids: kids[:to]} }
	other := []api.Node{missing(api.TkName), missing(api.TkEnd), missing(api.TkName)}
	unlike := func(to int) api.Node { return api.Node{Kind: api.NkUse, Kids: other[:to]} }
	for a := range 4 {
		for b := range 4 {
			wantSame(t, list(a), list(b), a == b)
			wantSame(t, inner(api.NkDo, list(a), list(b)), inner(api.NkDo, list(a), list(a)), a == b)
			wantSame(t, inner(api.NkDo, list(1), list(a)), inner(api.NkDo, unlike(1), unlike(a)), a < 2)
			wantSame(t, inner(api.NkDo, list(a), list(1)), inner(api.NkDo, unlike(a), unlike(1)), a < 2)
			wantSame(t, inner(api.NkDo, list(a), list(b)), inner(api.NkDo, list(a), unlike(b)), b < 2)
			wantSame(t, inner(api.NkDo, list(a), unlike(b)), inner(api.NkDo, unlike(a), list(b)), a < 2 && b < 2)
		}
	}
}

// TestSameGreat has nodes of many levels, many kids and many nodes, some of them not valid.
func TestSameGreat(t *testing.T) { // P15.1
	name, other := leaf(api.TkName, 1), leaf(api.TkInt, 1)
	for _, levels := range []int{1 << 16, 1<<16 + 1, 1 << 20} {
		if !Same(chain(levels, name), chain(levels, name)) || Same(chain(levels, name), chain(levels, other)) || Same(chain(levels, name), chain(levels+1, name)) {
			t.Errorf("%d levels", levels)
		}
	}
	row := make([]api.Node, 1<<20)
	long, longer := api.Node{Kids: row}, api.Node{Kids: make([]api.Node, 1<<20)}
	if !Same(long, longer) {
		t.Error("a long row")
	}
	longer.Kids[1<<20-1].Width = 1
	if Same(long, longer) {
		t.Error("a long row with another end")
	}
	if !Same(doubled(60, name), doubled(60, name)) || Same(doubled(60, name), doubled(60, other)) || Same(doubled(60, name), doubled(61, name)) {
		t.Error("nodes of two kids in one memory")
	}
}

// TestSameKnots has nodes that contain themselves: they are the same if no way down leads to a difference.
func TestSameKnots(t *testing.T) { // P15.1, P0.1
	for a := 1; a < 6; a++ {
		for b := 1; b < 6; b++ {
			x, y := knot(api.NkBlock, a, missing(api.TkEnd)), knot(api.NkBlock, b, missing(api.TkEnd))
			z, w := knot(api.NkBlock, b, missing(api.TkSemi)), knot(api.NkUse, b, missing(api.TkEnd))
			if !Same(x, y) || Same(x, z) || Same(x, w) || Same(x, knot(api.NkBlock, b)) || Same(x, chain(40, name())) || Same(chain(40, name()), x) {
				t.Errorf("knots of %d and %d levels", a, b)
			}
			at(&y, make([]int, b-1)).Kids[1].Width = 5
			if Same(x, y) || Same(y, x) {
				t.Errorf("knots of %d and %d levels, with another last one", a, b)
			}
		}
	}
}

func name() api.Node { return leaf(api.TkName, 1) }
