package grammar

import (
	"math/bits"
	"slices"
	"strconv"
	"strings"
	"sync"

	"glossator/api"
)

// The reference: the rules as the chapter's table has them, and what the definitions say of them, each worked out by itself:
// the empty sequence by a derivation in which no part stands below itself; what begins a sequence by going down from part to part;
// what follows a part by a kind of its own, put in its place, and all pairs of kinds that may stand side by side;
// what is derived by a search for where it may end.

type reference struct {
	rules   []Rule
	order   []uint8        // the parts
	rights  [256][][]uint8 // the right-hand sides of a part
	number  map[uint8]int  // of the first rule of a part
	soonest map[uint8]int  // which of its right-hand sides leads to an end by the fewest levels
	first   map[uint8][]uint8
	follow  map[uint8][]uint8
}

func (g *reference) part(symbol uint8) bool { return g.rights[symbol] != nil }

// theChapter is what the chapter's table says; it is worked out once, and nobody changes it.
var theChapter = sync.OnceValue(func() *reference {
	g := read()
	g.soonest = g.ends()
	g.first, g.follow = map[uint8][]uint8{}, map[uint8][]uint8{}
	for _, part := range g.order {
		g.first[part], g.follow[part] = g.beginnings(part), g.followers(part)
	}
	return g
})

// read reads the chapter's table.
func read() *reference {
	g := &reference{number: map[uint8]int{}}
	for line := range strings.Lines(strings.TrimSpace(chapter)) {
		cells := strings.Split(line, "|")
		part := symbolOf(cells[0])
		g.order = append(g.order, part)
		g.number[part] = len(g.rules)
		for text := range strings.SplitSeq(cells[2], ";") {
			var right []uint8
			for _, name := range strings.Fields(text) {
				if name != "nothing" {
					right = append(right, symbolOf(name))
				}
			}
			g.rules = append(g.rules, Rule{part, right})
			g.rights[part] = append(g.rights[part], right)
		}
		numbers := strings.Fields(cells[1])
		if from, to := numbers[0], numbers[len(numbers)-1]; from != strconv.Itoa(g.number[part]) || to != strconv.Itoa(len(g.rules)-1) {
			panic("the numbers of " + line)
		}
	}
	return g
}

func symbolOf(name string) uint8 {
	name = strings.TrimSpace(name)
	if symbol, ok := symbols()[name]; ok {
		return symbol
	}
	n, err := strconv.Atoi(name)
	if err != nil || n < 101 || n > 125 {
		panic("no symbol: " + name)
	}
	return uint8(n)
}

// ends tells, level by level, which right-hand side of each part is the first one whose parts all have an end.
func (g *reference) ends() map[uint8]int {
	done := map[uint8]int{}
	for len(done) < len(g.order) {
		level := map[uint8]int{}
		for _, part := range g.order {
			for n, right := range g.rights[part] {
				open := slices.ContainsFunc(right, func(s uint8) bool { _, ok := done[s]; return g.part(s) && !ok })
				if _, ok := level[part]; !open && !ok {
					level[part] = n
				}
			}
		}
		for part, n := range level {
			if _, ok := done[part]; !ok {
				done[part] = n
			}
		}
	}
	return done
}

// empty tells whether the empty sequence is derived from a symbol; above are the parts that it stands below.
func (g *reference) empty(symbol uint8, above ...uint8) bool {
	if slices.Contains(above, symbol) {
		return false
	}
	return slices.ContainsFunc(g.rights[symbol], func(right []uint8) bool { return g.allEmpty(right, append(above, symbol)...) })
}

func (g *reference) allEmpty(symbols []uint8, above ...uint8) bool {
	return !slices.ContainsFunc(symbols, func(s uint8) bool { return !g.empty(s, above...) })
}

// begins tells whether a sequence derived from one of the symbols, or of those behind it, if it may be empty, begins with a kind.
func (g *reference) begins(symbols []uint8, kind uint8) bool {
	seen := map[uint8]bool{}
	var down func(symbols []uint8) bool
	down = func(symbols []uint8) bool {
		for _, s := range symbols {
			if !g.part(s) {
				return s == kind
			}
			if !seen[s] {
				seen[s] = true
				if slices.ContainsFunc(g.rights[s], down) {
					return true
				}
			}
			if !g.empty(s) {
				return false
			}
		}
		return false
	}
	return down(symbols)
}

// beginnings are the kinds with which a part begins.
func (g *reference) beginnings(part uint8) []uint8 {
	var l []uint8
	for kind := range 256 {
		if g.begins([]uint8{part}, uint8(kind)) {
			l = append(l, uint8(kind))
		}
	}
	return l
}

// marker is a kind that no token has.
const marker = 99

// pair are two kinds side by side; 0 stands ahead of the first one, and behind the last.
type pair struct{ left, right uint8 }

// pairs are those that stand in the sequences derived from NkFile, if the part may also be the marker.
func (g *reference) pairs(part uint8) map[pair]bool {
	of := map[uint8]map[pair]bool{part: {{0, marker}: true, {marker, 0}: true}}
	for grown := true; grown; {
		grown = false
		for _, r := range g.rules {
			if of[r.Part] == nil {
				of[r.Part] = map[pair]bool{}
			}
			for p := range g.inRow(r.Right, of) {
				grown = grown || !of[r.Part][p]
				of[r.Part][p] = true
			}
		}
	}
	return of[api.NkFile]
}

// inRow are the pairs in sequences derived from symbols one behind the other, as far as those of each part are known.
func (g *reference) inRow(symbols []uint8, of map[uint8]map[pair]bool) map[pair]bool {
	all := map[pair]bool{}
	lasts := map[uint8]bool{0: true} // what may stand directly ahead
	for _, s := range symbols {
		next := map[uint8]bool{}
		pairs := of[s]
		if !g.part(s) {
			pairs = map[pair]bool{{0, s}: true, {s, 0}: true}
		}
		if g.empty(s) {
			for last := range lasts {
				next[last] = true
			}
		}
		for p := range pairs {
			switch {
			case p.right == 0 && p.left != 0:
				next[p.left] = true
			case p.left == 0 && p.right != 0:
				for last := range lasts {
					all[pair{last, p.right}] = true
				}
			case p.left != 0:
				all[p] = true
			}
		}
		lasts = next
	}
	for last := range lasts {
		all[pair{last, 0}] = true
	}
	return all
}

// followers are the kinds behind a part, and 0 for the end.
func (g *reference) followers(part uint8) []uint8 {
	var l []uint8
	for p := range g.pairs(part) {
		if p.left == marker && p.right != marker {
			l = append(l, p.right)
		}
	}
	slices.Sort(l)
	return l
}

// fits tells whether a rule meets the condition for being chosen at a kind, 0 for the end.
func (g *reference) fits(r Rule, kind uint8) bool {
	return kind != 0 && g.begins(r.Right, kind) || g.allEmpty(r.Right) && slices.Contains(g.follow[r.Part], kind)
}

// search looks for a derivation of a row of at most 62 kinds.
type search struct {
	*reference
	row  []uint8
	done [126][]uint64 // the ends of each part from each place on, as far as they have been searched for; a bit more than those that may be one
}

const searched = 1 << 63

// derives tells whether a row is derived from a symbol.
func (g *reference) derives(symbol uint8, row []uint8) bool {
	s := search{reference: g, row: row}
	return s.ends(symbol, 0)>>len(row)&1 == 1
}

// ends are the places, a bit each, where sequences derived from a symbol may end that begin at a place of the row.
func (s *search) ends(symbol uint8, at int) uint64 {
	if !s.part(symbol) {
		if at < len(s.row) && s.row[at] == symbol {
			return 1 << (at + 1)
		}
		return 0
	}
	if s.done[symbol] == nil {
		s.done[symbol] = make([]uint64, len(s.row)+1)
	}
	if all := s.done[symbol][at]; all != 0 {
		return all &^ searched
	}
	var all uint64
	for _, right := range s.rights[symbol] {
		ends := uint64(1) << at
		for _, next := range right {
			ends = s.behind(next, ends)
		}
		all |= ends
	}
	s.done[symbol][at] = all | searched
	return all
}

// behind are the places where a symbol may end that begins at one of some places.
func (s *search) behind(symbol uint8, begins uint64) uint64 {
	var all uint64
	for ; begins != 0; begins &= begins - 1 {
		all |= s.ends(symbol, bits.TrailingZeros64(begins))
	}
	return all
}
