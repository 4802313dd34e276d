package tree

import (
	"math"
	"slices"
	"testing"

	"glossator/api"
)

// wantKind holds Right for a node by itself and as a kid against the definition.
func wantKind(t *testing.T, n api.Node) {
	t.Helper()
	for _, n := range []api.Node{n, inner(api.NkFile, n), inner(api.NkDo, leaf(api.TkInt, 2), n), inner(api.NkFile, inner(api.NkBlock, n), missing(api.TkEnd))} {
		if Right(n) != wantRight(n) {
			t.Errorf("Right(%+v): %v", n, Right(n))
		}
	}
}

// TestEachKind has a leaf, a missing one and an inner node of each number.
func TestEachKind(t *testing.T) { // P15.1
	leaves, roots, kids := 0, 0, 0
	for number := range 256 {
		kind := uint8(number)
		wantKind(t, leaf(kind, 1))
		wantKind(t, leaf(kind, 0))
		wantKind(t, missing(kind))
		wantKind(t, inner(kind))
		wantKind(t, inner(kind, leaf(api.TkName, 1)))
		wantKind(t, inner(kind, missing(api.NkBlock)))
		if Right(leaf(kind, 1)) {
			leaves++
		}
		if Right(inner(kind, leaf(api.TkName, 1))) {
			roots++
		}
		if Right(inner(api.NkFile, inner(kind, leaf(api.TkName, 1)))) {
			kids++
		}
	}
	if leaves != 38 || roots != 18 || kids != 17 {
		t.Errorf("%d kinds of leaves, %d of inner nodes, %d of them as kids", leaves, roots, kids)
	}
	for _, n := range []api.Node{{}, leaf(18, 1), leaf(19, 1), leaf(41, 1), leaf(0, 1), inner(49), inner(69), inner(0), inner(255), leaf(api.NkMissing, 0), leaf(api.NkBlock, 1)} {
		if Right(n) {
			t.Errorf("%+v is valid", n)
		}
	}
}

// TestEachWant has each number as the Want of a missing leaf, of another leaf and of an inner node.
func TestEachWant(t *testing.T) { // P15.1
	many := 0
	for number := range 256 {
		want := uint8(number)
		for _, n := range []api.Node{
			missing(want), {Kind: api.TkName, Want: want, Width: 1}, {Kind: api.TkBlank, Want: want, Width: 1}, {Kind: api.NkExpr, Want: want}, {Kind: api.NkFile, Want: want},
			{Kind: api.NkBlock, Want: want, Width: 1, Kids: []api.Node{leaf(api.TkBegin, 1)}}, {Kind: api.NkMissing, Want: want, Width: 1}, {Kind: api.NkMissing, Want: want, Kids: []api.Node{missing(api.TkEnd)}},
		} {
			wantKind(t, n)
		}
		if Right(missing(want)) {
			many++
		}
	}
	if many != 38-6+2 || Right(missing(api.TkBlank)) || Right(missing(api.TkBroken)) || Right(missing(0)) || Right(missing(api.NkDo)) || Right(missing(api.NkMissing)) || !Right(missing(api.TkLet)) || !Right(missing(api.TkOr)) {
		t.Errorf("%d kinds may be missing", many)
	}
}

func TestWidths(t *testing.T) { // P15.1
	for _, width := range append(far(), widths()...) {
		for _, kind := range []uint8{api.TkName, api.TkBlank, api.TkOpen, api.TkOr, api.NkMissing, api.NkFile, api.NkBlock} {
			wantKind(t, leaf(kind, width))
			wantKind(t, api.Node{Kind: api.NkMissing, Want: api.TkName, Width: width})
		}
		for _, own := range append(widths(), 3, width, width+1, width-1) {
			wantKind(t, api.Node{Kind: api.NkExpr, Width: own, Kids: []api.Node{leaf(api.TkName, width)}})
			wantKind(t, api.Node{Kind: api.NkExpr, Width: own, Kids: []api.Node{leaf(api.TkName, width), missing(api.TkSemi)}})
			wantKind(t, api.Node{Kind: api.NkExpr, Width: own, Kids: []api.Node{{Kind: api.NkUse, Width: width}}})
		}
	}
	for width, want := range map[int]bool{-1: false, 0: false, 1: true, 1<<40 - 1: true, 1 << 40: true, 1<<40 + 1: false, math.MaxInt: false, math.MinInt: false} {
		if Right(leaf(api.TkName, width)) != want || Right(inner(api.NkFile, leaf(api.TkName, width))) != want {
			t.Errorf("a width of %d: %v", width, !want)
		}
	}
}

// TestSums has kids whose Widths together are just 2^40, are more, or wrap round to something that would do.
func TestSums(t *testing.T) { // P15.1
	const most = 1 << 40
	for _, c := range []struct {
		widths []int
		want   bool
	}{
		{nil, true}, {[]int{1}, true}, {[]int{most - 1, 1}, true}, {[]int{1, most - 1}, true}, {[]int{most, 1}, false}, {[]int{1, most}, false}, {[]int{most - 1, 2}, false}, {[]int{most, most}, false},
		{[]int{most / 2, most / 2}, true}, {[]int{most / 2, most/2 + 1}, false}, {[]int{most/2 - 1, most / 2, 1}, true}, {[]int{0}, false}, {[]int{-1, 1}, false}, {[]int{2, -1}, false}, {[]int{most + 1, -1}, false}, {[]int{-1, most + 1}, false},
		{[]int{math.MaxInt, 1, math.MaxInt, 1}, false}, {[]int{1 << 62, 1 << 62, 1 << 62, 1 << 62}, false}, {[]int{math.MinInt, math.MinInt}, false}, {[]int{math.MaxInt, math.MaxInt, 3}, false}, {[]int{math.MinInt, math.MaxInt, 2}, false},
	} {
		var kids []api.Node
		for _, width := range c.widths {
			kids = append(kids, leaf(api.TkName, width))
		}
		n := inner(api.NkBlock, kids...) // the sum wraps round
		if Right(n) != c.want {
			t.Errorf("kids of %v: %v", c.widths, !c.want)
		}
		wantTree(t, n)
		for _, width := range widths() {
			n.Width = width
			wantKind(t, n)
		}
	}
	row := slices.Repeat([]api.Node{leaf(api.TkName, most)}, 1<<19)
	if Right(inner(api.NkFile, row...)) || Right(api.Node{Kind: api.NkFile, Width: most, Kids: row}) || Right(api.Node{Kind: api.NkFile, Kids: row}) {
		t.Error("a long row of kids of 2^40")
	}
}

func TestFileBelow(t *testing.T) { // P15.1
	file := inner(api.NkFile, leaf(api.TkName, 1))
	if !Right(file) || !Right(inner(api.NkFile)) {
		t.Error("a File as the root")
	}
	for _, n := range []api.Node{inner(api.NkFile, file), inner(api.NkBlock, file), inner(api.NkFile, leaf(api.TkName, 1), inner(api.NkFile)), chain(5, file), inner(api.NkFile, inner(api.NkBlock, inner(api.NkDo), file))} {
		if Right(n) {
			t.Errorf("%+v is valid", n)
		}
	}
}

// TestMany has trees of just 2^20 nodes, and of one more, in several shapes.
func TestMany(t *testing.T) { // P15.1
	const most = 1 << 20
	name := leaf(api.TkName, 1)
	for _, one := range []api.Node{name, missing(api.TkSemi), inner(api.NkUse)} {
		row := slices.Repeat([]api.Node{one}, most)
		if !Right(inner(api.NkFile, row[1:]...)) || Right(inner(api.NkFile, row...)) {
			t.Error("a row")
		}
	}
	twos := slices.Repeat([]api.Node{inner(api.NkUse, name)}, most/2)
	if !Right(inner(api.NkFile, append(twos[1:], name)...)) || Right(inner(api.NkFile, twos...)) {
		t.Error("a row of two levels")
	}
	double := doubled(20, name) // one node fewer
	if !Right(double) || !Right(inner(api.NkFile, double)) || Right(inner(api.NkFile, double, missing(api.TkEnd))) || Right(inner(api.NkFile, inner(api.NkBlock, double))) || Right(doubled(21, name)) || Right(doubled(60, missing(api.NkExpr))) {
		t.Error("nodes of two kids")
	}
	if n := inner(api.NkFile, double); len(Leaves(n)) != most/2 || !Fits(n, slices.Repeat([]api.Token{{Kind: api.TkName, Width: 1}}, most/2)) || len(At(n, most/2-1)) != 20 {
		t.Error("the leaves of a great tree")
	}
}

// TestDeep has trees of just 2^16 levels, and of one more.
func TestDeep(t *testing.T) { // P15.1, P15.2, P15.4
	const most = 1 << 16
	for _, last := range []api.Node{leaf(api.TkName, 7), missing(api.TkSemi), inner(api.NkUse)} {
		deep, deeper := chain(most, last), chain(most+1, last)
		if !Right(deep) || Right(deeper) || Right(inner(api.NkFile, leaf(api.TkName, 1), deep)) || Right(chain(1<<20, last)) || Right(chain(1<<20+1, last)) {
			t.Fatalf("%+v behind 2^16 levels", last)
		}
		many := 0
		for s, n := range Walk(deep) {
			many++
			if s != (api.Span{From: 0, To: last.Width}) || (many == most) != (n.Kind == last.Kind) {
				t.Fatalf("level %d: %v, %d", many, s, n.Kind)
			}
		}
		if many != most {
			t.Errorf("%d nodes", many)
		}
		path := make([]int, most-1)
		if n, _, ok := Get(deep, path); !ok || n.Kind != last.Kind {
			t.Errorf("Get: %v, %v", n, ok)
		}
		wantNoNode(t, deep, append(path, 0))
		if got := At(deep, 3); last.Width > 0 && !slices.Equal(got, path) || last.Width == 0 && len(got) > 0 {
			t.Errorf("At: %d levels", len(got))
		}
		for range Walk(deeper) {
			t.Fatal("Walk of one level more")
		}
	}
}

// TestKnots has nodes that contain themselves.
func TestKnots(t *testing.T) { // P15.1, P0.1
	for _, n := range []api.Node{knot(api.NkBlock, 1), knot(api.NkBlock, 3), knot(api.NkFile, 2), knot(api.TkName, 1), knot(api.NkMissing, 1), knot(api.NkUse, 2, missing(api.TkName), missing(api.NkExpr)), inner(api.NkFile, leaf(api.TkName, 1), knot(api.NkDo, 5))} {
		if Right(n) {
			t.Error("a knot is valid")
		}
		for range Walk(n) {
			t.Error("Walk of a knot")
		}
		text, e := Print(n)
		_, s, ok := Get(n, []int{0, 0, 0})
		if len(Leaves(n)) > 0 || Fits(n, nil) || len(At(n, 0)) > 0 || text != "" || e != api.ErrTree || s != (api.Span{}) || ok {
			t.Error("a knot")
		}
	}
	wide := make([]api.Node, 1<<19)
	for i := range wide {
		wide[i] = api.Node{Kind: api.NkBlock, Kids: wide}
	}
	if Right(wide[0]) {
		t.Error("a wide knot")
	}
}
