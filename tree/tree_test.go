package tree

import (
	"math/rand/v2"
	"slices"
	"strings"
	"testing"

	"glossator/api"
	"glossator/lex"
)

// wantTree holds all calls for a tree of few nodes, valid or not, against the reference.
func wantTree(t *testing.T, n api.Node) {
	t.Helper()
	right := wantRight(n)
	if Right(n) != right {
		t.Fatalf("Right(%+v): %v", n, !right)
	}
	if !right {
		wantNothing(t, n)
		return
	}
	all := entries(n)
	wantWalk(t, n, all)
	wantPlaces(t, n, all)
	wantPaths(t, n, all)
	if text, e := Print(n); text != wantPrint(all) || e != api.OK {
		t.Fatalf("Print(%+v): %v, %q", n, e, text)
	}
	if !Same(n, n) || !Same(n, clone(n)) {
		t.Fatalf("%+v isn't the same as itself", n)
	}
}

// wantNothing asks what is told of a tree that is not valid.
func wantNothing(t *testing.T, n api.Node) {
	t.Helper()
	for s, m := range Walk(n) {
		t.Fatalf("Walk(%+v): %v, %v", n, s, m)
	}
	if l := Leaves(n); len(l) > 0 {
		t.Fatalf("Leaves(%+v): %v", n, l)
	}
	for _, l := range [][]api.Token{nil, {}, {{Kind: n.Kind, Width: n.Width}}, {{Kind: api.TkName, Width: 1}}} {
		if Fits(n, l) {
			t.Fatalf("%+v fits %v", n, l)
		}
	}
	for _, offset := range []int{-1, 0, 1, n.Width - 1, n.Width} {
		if path := At(n, offset); len(path) > 0 {
			t.Fatalf("At(%+v, %d): %v", n, offset, path)
		}
	}
	for _, path := range [][]int{nil, {}, {0}, {1}, {0, 0}, {-1}, {len(n.Kids)}} {
		wantNoNode(t, n, path)
	}
	if text, e := Print(n); text != "" || e != api.ErrTree {
		t.Fatalf("Print(%+v): %q, %v", n, text, e)
	}
}

func wantNoNode(t *testing.T, n api.Node, path []int) {
	t.Helper()
	if m, s, ok := Get(n, path); m.Kind != 0 || m.Want != 0 || m.Width != 0 || m.Kids != nil || s != (api.Span{}) || ok {
		t.Fatalf("Get(%+v, %v): %+v, %v, %v", n, path, m, s, ok)
	}
}

// wantWalk asks for the nodes, the spans and the leaves of a valid tree.
func wantWalk(t *testing.T, n api.Node, all []entry) {
	t.Helper()
	i := 0
	var leaves []api.Node
	for s, m := range Walk(n) {
		if i == len(all) || !sameSpan(s, all[i].span) || written(m) != written(all[i].node) {
			t.Fatalf("Walk(%+v): %d: %v, %+v", n, i, s, m)
		}
		i++
	}
	if i != len(all) {
		t.Fatalf("Walk(%+v): %d nodes", n, i)
	}
	for _, e := range all {
		if tokenKind(e.node.Kind) || e.node.Kind == api.NkMissing {
			leaves = append(leaves, e.node)
		}
	}
	if got := Leaves(n); !slices.EqualFunc(got, leaves, func(a, b api.Node) bool { return written(a) == written(b) }) {
		t.Fatalf("Leaves(%+v): %+v", n, got)
	}
	if !Fits(n, tokens(all)) {
		t.Fatalf("%+v doesn't fit its tokens", n)
	}
}

// tokens are those of a tree.
func tokens(all []entry) []api.Token {
	var l []api.Token
	for _, e := range all {
		if tokenKind(e.node.Kind) {
			l = append(l, api.Token{Kind: e.node.Kind, Width: e.node.Width, Look: len(l) - 1})
		}
	}
	return l
}

// wantPlaces asks for the paths to all offsets of a valid tree, and around; a great one is asked at the ends of its nodes alone.
func wantPlaces(t *testing.T, n api.Node, all []entry) {
	t.Helper()
	offsets := append(far(), -2, -1, n.Width-1, n.Width, n.Width+1)
	for offset := range min(n.Width, 60) {
		offsets = append(offsets, offset)
	}
	for _, e := range all {
		offsets = append(offsets, e.span.From, e.span.To)
	}
	for _, offset := range offsets {
		path := At(n, offset)
		if !slices.Equal(path, wantAt(all, offset)) {
			t.Fatalf("At(%+v, %d): %v, not %v", n, offset, path, wantAt(all, offset))
		}
		if offset < 0 || offset >= n.Width {
			if len(path) > 0 {
				t.Fatalf("At(%+v, %d): %v", n, offset, path)
			}
			continue
		}
		wantLeafAt(t, n, path, offset) // P15.6
	}
}

// wantLeafAt asks that a path leads to a leaf around an offset, by nodes around that.
func wantLeafAt(t *testing.T, n api.Node, path []int, offset int) {
	t.Helper()
	around := api.Span{From: 0, To: n.Width}
	for many := range len(path) + 1 {
		m, s, ok := Get(n, path[:many])
		if !ok || s.From < around.From || s.To > around.To || s.From > offset || s.To <= offset || s.To-s.From != m.Width {
			t.Fatalf("Get(%+v, %v), to the offset %d: %v, %v", n, path[:many], offset, s, ok)
		}
		around = s
		if many == len(path) && !tokenKind(m.Kind) {
			t.Fatalf("At(%+v, %d): %v, no leaf", n, offset, path)
		}
	}
}

// wantPaths asks for the nodes at the ends of all paths, and at the ends of such as lead to none.
func wantPaths(t *testing.T, n api.Node, all []entry) {
	t.Helper()
	for _, e := range all {
		m, s, ok := Get(n, e.path)
		if !ok || !sameSpan(s, e.span) || written(m) != written(e.node) {
			t.Fatalf("Get(%+v, %v): %+v, %v, %v", n, e.path, m, s, ok)
		}
		for _, i := range append([]int{-2, -1, len(e.node.Kids), len(e.node.Kids) + 1}, far()...) {
			if i >= 0 && i < len(e.node.Kids) {
				continue
			}
			wantNoNode(t, n, append(slices.Clone(e.path), i))
			wantNoNode(t, n, append(slices.Clone(e.path), i, 0))
		}
	}
}

func TestExamples(t *testing.T) { // P15.1 to P15.5
	n := chapterTree()
	lines := []string{"File 0-7", " Let 0-7", "  let 0-3", "  blank 3-4", "  name 4-5", "  = 5-6", "  ?Expr 6-6", "  ; 6-7", ""}
	if text, e := Print(n); text != strings.Join(lines, "\n") || e != api.OK {
		t.Errorf("Print: %q, %v", text, e)
	}
	if a, b, c := At(n, 4), At(n, 6), At(n, 7); !slices.Equal(a, []int{0, 2}) || !slices.Equal(b, []int{0, 5}) || len(c) > 0 {
		t.Errorf("At: %v, %v, %v", a, b, c)
	}
	if m, s, ok := Get(n, []int{0, 4}); !Same(m, missing(api.NkExpr)) || s != (api.Span{From: 6, To: 6}) || !ok {
		t.Errorf("Get: %+v, %v, %v", m, s, ok)
	}
	wider, kids := chapterTree(), missing(api.NkExpr)
	wider.Width++
	kids.Kids = []api.Node{leaf(api.TkName, 1)}
	if !Right(n) || Right(wider) || Right(kids) || Right(leaf(api.TkName, 0)) || !Right(inner(api.NkBlock)) {
		t.Error("Right")
	}
	if !Fits(n, lex.All("let a=;")) || Fits(n, nil) {
		t.Error("Fits")
	}
	if Name(api.TkAnd) != "&&" || Name(api.NkUse) != "Use" || Name(18) != "" {
		t.Error("Name")
	}
}

func TestPrograms(t *testing.T) { // P15.1 to P15.6
	for text, n := range programs() {
		if !Right(n) || n.Width != len(text) {
			t.Errorf("%q: %+v", text, n)
		}
		wantTree(t, n)
		if !Fits(n, lex.All(text)) {
			t.Errorf("%q: the tree doesn't fit", text)
		}
	}
}

// TestSmall has all small trees, most of them not valid.
func TestSmall(t *testing.T) { // P15.1 to P15.6
	many, right := 0, 0
	small(5, func(n api.Node) {
		wantTree(t, n)
		many++
		if Right(n) {
			right++
		}
	})
	if many < 10000 || right < 1000 || right > many/2 {
		t.Errorf("%d trees, %d of them valid", many, right)
	}
}

func TestGrown(t *testing.T) { // P15.1 to P15.6
	random := rand.New(rand.NewPCG(15, 1))
	for i := range 400 {
		kind := []uint8{api.NkFile, api.NkBlock, api.NkExpr, api.NkError}[i%4]
		n := grown(random, kind, i/4)
		if !Right(n) {
			t.Fatalf("%+v isn't valid", n)
		}
		wantTree(t, n)
	}
}

// TestChanged has trees with one change, most of them not valid any more.
func TestChanged(t *testing.T) { // P15.1 to P15.4
	for _, n := range programs() {
		changed(n, func(what string, other api.Node) {
			if Right(other) != wantRight(other) {
				t.Fatalf("%s: Right(%+v): %v", what, other, Right(other))
			}
			if !Right(other) {
				wantNothing(t, other)
			}
		})
	}
}

// TestLeftEarly leaves the enumeration behind each of its nodes.
func TestLeftEarly(t *testing.T) { // P15.2
	for _, n := range programs() {
		all := entries(n)
		for stop := range len(all) {
			i := 0
			for s, m := range Walk(n) {
				if s != all[i].span || written(m) != written(all[i].node) {
					t.Fatalf("%d of %+v: %v, %v", i, n, s, m)
				}
				if i == stop {
					break
				}
				i++
			}
			calls := 0
			Walk(n)(func(api.Span, api.Node) bool { calls++; return calls <= stop })
			if i != stop || calls != stop+1 {
				t.Fatalf("%+v, left behind %d: %d nodes, %d calls", n, stop, i, calls)
			}
		}
	}
}

// TestWalkAgain goes over one enumeration twice, and over two of them in turn.
func TestWalkAgain(t *testing.T) { // P15.2
	n := chapterTree()
	walk := Walk(n)
	for range walk {
		break
	}
	many := 0
	for s := range walk {
		for inside := range walk {
			if inside == s {
				many++
			}
		}
	}
	if many != 2*2+6 {
		t.Errorf("%d", many)
	}
}

// TestSpans asks that the spans of kids are adjacent and fill that of their parent.
func TestSpans(t *testing.T) { // P15.6
	random := rand.New(rand.NewPCG(15, 6))
	for i := range 200 {
		n := grown(random, api.NkFile, i)
		for _, e := range entries(n) {
			_, s, _ := Get(n, e.path)
			from := s.From
			for kid := range e.node.Kids {
				_, k, ok := Get(n, append(slices.Clone(e.path), kid))
				if !ok || k.From != from {
					t.Fatalf("%+v: the kid %d at %v: %v behind %d", n, kid, e.path, k, from)
				}
				from = k.To
			}
			if len(e.node.Kids) > 0 && from != s.To {
				t.Fatalf("%+v: the kids at %v end at %d, not %d", n, e.path, from, s.To)
			}
		}
	}
}

// wantFit holds Fits for tokens that are a tree's against what the definition says.
func wantFit(t *testing.T, n api.Node, own, l []api.Token) {
	t.Helper()
	same := slices.EqualFunc(l, own, func(a, b api.Token) bool { return a.Kind == b.Kind && a.Width == b.Width })
	if Fits(n, l) != same {
		t.Fatalf("Fits(%+v, %v): %v", n, l, !same)
	}
}

// TestFits has a tree's tokens, one more, one fewer, and one that is another.
func TestFits(t *testing.T) { // P15.3
	for _, n := range programs() {
		own := tokens(entries(n))
		wantFit(t, n, own, nil)
		wantFit(t, n, own, []api.Token{})
		wantFit(t, n, own, own)
		for i := range len(own) + 1 {
			wantFit(t, n, own, own[:i])
			wantFit(t, n, own, own[i:])
			for _, more := range []api.Token{{}, {Kind: api.TkName, Width: 1}, {Kind: api.TkBlank, Width: 1}, {Kind: api.NkMissing}} {
				wantFit(t, n, own, slices.Insert(slices.Clone(own), i, more))
			}
			if i == len(own) {
				continue
			}
			wantFit(t, n, own, slices.Delete(slices.Clone(own), i, i+1))
			for number := range 256 {
				other := slices.Clone(own)
				other[i].Kind = uint8(number)
				wantFit(t, n, own, other)
			}
			for _, width := range append(far(), -1, 0, 1, own[i].Width+1, own[i].Width-1, -own[i].Width) {
				other := slices.Clone(own)
				other[i].Width = width
				wantFit(t, n, own, other)
				other = slices.Clone(own)
				other[i].Look = width
				if !Fits(n, other) {
					t.Fatalf("%+v doesn't fit with a Look of %d", n, width)
				}
			}
		}
	}
}

// TestNoWidth has leaves and nodes without width at each place.
func TestNoWidth(t *testing.T) { // P15.4
	none, empty := missing(api.TkSemi), inner(api.NkArgs, missing(api.NkExpr), inner(api.NkUse))
	n := inner(api.NkFile, none, empty, leaf(api.TkName, 1), empty, none, inner(api.NkUse, none, leaf(api.TkName, 2), empty), none, empty)
	for offset, want := range map[int][]int{-1: nil, 0: {2}, 1: {5, 1}, 2: {5, 1}, 3: nil, 4: nil} {
		if got := At(n, offset); !slices.Equal(got, want) {
			t.Errorf("At(%d): %v, not %v", offset, got, want)
		}
	}
	wantTree(t, n)
	for _, n := range []api.Node{none, empty, inner(api.NkFile), inner(api.NkFile, empty)} {
		for offset := -2; offset < 3; offset++ {
			if path := At(n, offset); len(path) > 0 {
				t.Errorf("At(%+v, %d): %v", n, offset, path)
			}
		}
		wantTree(t, n)
	}
	wantTree(t, leaf(api.TkName, 3)) // the path to a root that is a leaf is empty
}

func TestName(t *testing.T) { // P15.5
	seen := map[string]int{}
	for kind := range 256 {
		if got := Name(uint8(kind)); got != nameOf(uint8(kind)) {
			t.Errorf("Name(%d): %q, not %q", kind, got, nameOf(uint8(kind)))
		}
		seen[Name(uint8(kind))]++
	}
	if len(seen) != 38+19+1 || seen[""] != 256-38-19 {
		t.Errorf("%v", seen)
	}
	for kind, want := range map[uint8]string{
		0: "", api.TkBlank: "blank", api.TkLine: "line", api.TkBlock: "comment", api.TkOpen: "open", api.TkOdd: "odd", api.TkName: "name", api.TkInt: "int", api.TkText: "text", api.TkBroken: "broken",
		api.TkLet: "let", api.TkElse: "else", api.TkFalse: "false", 18: "", 19: "", api.TkLeft: "(", api.TkSemi: ";", api.TkAssign: "=", api.TkUnlike: "!=", api.TkAtMost: "<=", api.TkAtLeast: ">=",
		api.TkOver: "/", api.TkRest: "%", api.TkNot: "!", api.TkOr: "||", 41: "", 49: "", api.NkMissing: "Missing", api.NkFile: "File", api.NkDo: "Do", api.NkError: "Error", 69: "", 255: "",
	} {
		if Name(kind) != want {
			t.Errorf("Name(%d): %q, not %q", kind, Name(kind), want)
		}
	}
}

// TestPrintEachKind prints a root of each kind, one in a File, and a missing one.
func TestPrintEachKind(t *testing.T) { // P15.5
	for number := range 256 {
		kind := uint8(number)
		one, gone, node := leaf(kind, 12), missing(kind), inner(kind, leaf(api.TkInt, 3))
		for n, want := range map[*api.Node]string{&one: nameOf(kind) + " 0-12\n", &gone: "?" + nameOf(kind) + " 0-0\n", &node: nameOf(kind) + " 0-3\n int 0-3\n"} {
			if !wantRight(*n) {
				wantNothing(t, *n)
				continue
			}
			if text, e := Print(*n); text != want || e != api.OK {
				t.Errorf("Print(%+v): %q, %v, not %q", *n, text, e, want)
			}
		}
	}
}

// printed is a tree of which just so many bytes are printed; at least some 100.
func printed(bytes int) api.Node {
	var kids []api.Node
	left := bytes - len("File 0-0\n")
	for ; left%len(" ?; 0-0\n") != 0; left -= len(" ?== 0-0\n") {
		kids = append(kids, missing(api.TkEqual))
	}
	for ; left > 0; left -= len(" ?; 0-0\n") {
		kids = append(kids, missing(api.TkSemi))
	}
	return inner(api.NkFile, kids...)
}

func TestPrintLong(t *testing.T) { // P15.5
	for _, bytes := range []int{100, 107, api.MaxTold - 1, api.MaxTold} {
		if text, e := Print(printed(bytes)); len(text) != bytes || e != api.OK {
			t.Errorf("%d bytes: %d, %v", bytes, len(text), e)
		}
	}
	for _, bytes := range []int{api.MaxTold + 1, api.MaxTold + 8, 2 * api.MaxTold} {
		if text, e := Print(printed(bytes)); text != "" || e != api.ErrLong {
			t.Errorf("%d bytes: %d, %v", bytes, len(text), e)
		}
	}
	wrong := printed(api.MaxTold + 1)
	wrong.Kids = append(wrong.Kids, missing(api.TkOdd))
	if text, e := Print(wrong); text != "" || e != api.ErrTree {
		t.Errorf("a long tree that is not valid: %d, %v", len(text), e)
	}
}

// TestPrintDeep prints levels: the spaces ahead of each line count too.
func TestPrintDeep(t *testing.T) { // P15.5
	long := func(levels int) int { return levels*(levels-1)/2 + (levels-1)*len("Block 0-7\n") + len("name 0-7\n") }
	levels := 1
	for long(levels+1) <= api.MaxTold {
		levels++
	}
	n := chain(levels, leaf(api.TkName, 7))
	if text, e := Print(n); text != wantPrint(entries(n)) || len(text) != long(levels) || e != api.OK {
		t.Errorf("%d levels: %d bytes, %v", levels, len(text), e)
	}
	for _, levels := range []int{levels + 1, 1 << 16} {
		if text, e := Print(chain(levels, leaf(api.TkName, 7))); text != "" || e != api.ErrLong {
			t.Errorf("%d levels: %d bytes, %v", levels, len(text), e)
		}
	}
}
