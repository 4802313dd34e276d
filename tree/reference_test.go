package tree

import (
	"cmp"
	"math/big"
	"os"
	"regexp"
	"slices"
	"strconv"
	"strings"
	"sync"

	"glossator/api"
)

// The reference: the kinds as package api writes them; the nodes of a tree level by level, each with its path, brought into preorder by sorting the paths;
// and what the definitions say of them, each worked out from this list.

// constants are the kinds of tokens and of nodes by their names in package api.
var constants = sync.OnceValue(func() map[string]uint8 {
	text, err := os.ReadFile("../api/api.go")
	if err != nil {
		panic(err)
	}
	all := map[string]uint8{}
	for _, m := range regexp.MustCompile(`\b([TN]k\w+)\s+uint8 = (\d+)`).FindAllStringSubmatch(string(text), -1) {
		n, err := strconv.ParseUint(m[2], 10, 8)
		if err != nil {
			panic(err)
		}
		all[m[1]] = uint8(n)
	}
	if len(all) != 38+19 {
		panic(strconv.Itoa(len(all)) + " kinds")
	}
	return all
})

// constantOf is the name that package api has for each kind, and the empty one for other numbers.
var constantOf = sync.OnceValue(func() [256]string {
	var of [256]string
	for name, kind := range constants() {
		of[kind] = name
	}
	return of
})

func tokenKind(kind uint8) bool { return strings.HasPrefix(constantOf()[kind], "Tk") }

func innerKind(kind uint8) bool {
	return strings.HasPrefix(constantOf()[kind], "Nk") && kind != api.NkMissing
}

func triviaKind(kind uint8) bool {
	return slices.Contains([]string{"TkBlank", "TkLine", "TkBlock", "TkOpen", "TkOdd", "TkBroken"}, constantOf()[kind])
}

// wanted tells whether a missing leaf may want a kind.
func wanted(kind uint8) bool {
	return tokenKind(kind) && !triviaKind(kind) || kind == api.NkExpr || kind == api.NkBlock
}

// nameOf is the name of a kind in the chapter's words.
func nameOf(kind uint8) string {
	name := constantOf()[kind]
	of := strings.Fields("blank line comment open odd name int text broken")
	keywords := strings.Fields("let fn if else while return true false")
	signs := strings.Fields("( ) { } , ; = == != < <= > >= + - * / % ! && ||")
	switch {
	case strings.HasPrefix(name, "Nk"):
		return name[2:]
	case name == "":
		return ""
	case kind >= constants()["TkLeft"]:
		return signs[kind-constants()["TkLeft"]]
	case kind >= constants()["TkLet"]:
		return keywords[kind-constants()["TkLet"]]
	}
	return of[kind-constants()["TkBlank"]]
}

// entry is a node of a tree.
type entry struct {
	path []int
	span api.Span
	node api.Node
}

func (e entry) has(offset int) bool { return e.span.From <= offset && e.span.To > offset }

// entries are all nodes of a tree in preorder. (A path comes ahead of those that it begins.)
func entries(n api.Node) []entry {
	all := []entry{{nil, api.Span{From: 0, To: n.Width}, n}}
	for done := 0; done < len(all); done++ {
		e := all[done]
		from := e.span.From
		for i, kid := range e.node.Kids {
			all = append(all, entry{append(slices.Clone(e.path), i), api.Span{From: from, To: from + kid.Width}, kid})
			from += kid.Width
		}
	}
	slices.SortFunc(all, func(a, b entry) int { return slices.Compare(a.path, b.path) })
	return all
}

// wantRight tells whether a tree is valid.
func wantRight(n api.Node) bool {
	deepest, all := 0, entries(n)
	for _, e := range all {
		deepest = max(deepest, len(e.path)+1)
		if !wantSound(e.node, len(e.path) == 0) {
			return false
		}
	}
	return len(all) <= 1<<20 && deepest <= 1<<16
}

// wantSound tells whether a node is a leaf or an inner node.
func wantSound(n api.Node, root bool) bool {
	if tokenKind(n.Kind) {
		return n.Width >= 1 && n.Width <= 1<<40 && n.Want == 0 && len(n.Kids) == 0
	}
	if n.Kind == api.NkMissing {
		return n.Width == 0 && len(n.Kids) == 0 && wanted(n.Want)
	}
	sum := new(big.Int)
	for _, kid := range n.Kids {
		sum.Add(sum, big.NewInt(int64(kid.Width)))
	}
	return innerKind(n.Kind) && (root || n.Kind != api.NkFile) && n.Want == 0 && n.Width <= 1<<40 && sum.Cmp(big.NewInt(int64(n.Width))) == 0
}

// wantAt is the path to an offset.
func wantAt(all []entry, offset int) []int {
	var longest []int
	in := map[string]bool{}
	for _, e := range all {
		above := len(e.path) == 0 || in[key(e.path[:len(e.path)-1])]
		if above && e.has(offset) {
			in[key(e.path)] = true
			if len(e.path) > len(longest) {
				longest = e.path
			}
		}
	}
	return longest
}

// key is a path as a text.
func key(path []int) string {
	var b strings.Builder
	for _, i := range path {
		b.WriteString(strconv.Itoa(i) + " ")
	}
	return b.String()
}

// wantPrint is what is printed of a valid tree.
func wantPrint(all []entry) string {
	var b strings.Builder
	for _, e := range all {
		for range e.path {
			b.WriteByte(' ')
		}
		if e.node.Kind == api.NkMissing {
			b.WriteString("?" + nameOf(e.node.Want))
		} else {
			b.WriteString(nameOf(e.node.Kind))
		}
		b.WriteString(" " + strconv.Itoa(e.span.From) + "-" + strconv.Itoa(e.span.To) + string(rune(10)))
	}
	return b.String()
}

// written is all of a node as a text: two nodes are the same exactly if their texts are.
func written(n api.Node) string {
	var b strings.Builder
	var write func(n api.Node)
	write = func(n api.Node) {
		for _, number := range []int{int(n.Kind), int(n.Want), n.Width, len(n.Kids)} {
			b.WriteString(strconv.Itoa(number) + " ")
		}
		for _, kid := range n.Kids {
			write(kid)
		}
	}
	write(n)
	return b.String()
}

// sameSpan compares spans as their places in a text.
func sameSpan(a, b api.Span) bool {
	return cmp.Compare(a.From, b.From) == 0 && cmp.Compare(a.To, b.To) == 0
}
