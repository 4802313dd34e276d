package relex

import (
	"math/rand/v2"
	"slices"
	"strings"
	"testing"

	"glossator/api"
	"glossator/edits"
	"glossator/lex"
)

func wantReuse(t *testing.T, x edit) {
	t.Helper()
	was := lex.All(x.from)
	got := asked(was, x.to, x.old, x.now)
	if got.e != api.OK || !slices.Equal(was[:got.first], got.is[:got.first]) || !slices.Equal(was[got.oldEnd:], got.is[got.newEnd:]) {
		t.Fatalf("%.80q to %.80q: %v", x.from, x.to, got)
	}
}

func TestReuse(t *testing.T) { // P13.2
	eachText(parts(), 3, func(s string) {
		eachEdit(s, inserts(), func(x edit) { wantReuse(t, x) })
	})
	random := rand.New(rand.NewPCG(13, 3))
	for range 20000 {
		wantReuse(t, anyEdit(random, anyText(random, random.IntN(60), true)))
	}
}

// TestReusedAsTheyAre has tokens of kinds that no scan tells: those that come back were not scanned again.
func TestReusedAsTheyAre(t *testing.T) { // P13.2
	s := strings.Repeat("let x = 1; // one\n", 40)
	for a := 0; a <= len(s); a++ {
		was := lex.All(s)
		for i := range was {
			was[i].Kind += 100
		}
		got := asked(was, s[:a]+"y"+s[a:], span(a, a), span(a, a+1))
		for i, token := range got.is {
			if again := token.Kind < 100; again != (i >= got.first && i < got.newEnd) {
				t.Fatalf("at %d: %v, token %d: %v", a, got, i, token)
			}
		}
		if got.newEnd-got.first > 6 || got.oldEnd-got.first > 6 {
			t.Fatalf("at %d: %v", a, got)
		}
	}
}

// wantComposed makes two edits one after the other, and the one of their affected spans.
func wantComposed(t *testing.T, s string, x, y edit) {
	t.Helper()
	between := asked(lex.All(s), x.to, x.old, x.now)
	last := asked(between.is, y.to, y.old, y.now)
	old, now, e := edits.Around([]api.Edit{
		{From: x.old.From, To: x.old.To, Text: x.to[x.now.From:x.now.To]},
		{From: y.old.From, To: y.old.To, Text: y.to[y.now.From:y.now.To]},
	})
	if e != api.OK {
		t.Fatalf("Around: %d", e)
	}
	once := asked(lex.All(s), y.to, old, now)
	if between.e != api.OK || last.e != api.OK || once.e != api.OK || !slices.Equal(last.is, once.is) || !lex.Right(y.to, once.is) {
		t.Fatalf("%.80q to %.80q to %.80q: %v, %v", s, x.to, y.to, last, once)
	}
	wantEdit(t, edit{s, y.to, old, now})
}

func TestComposition(t *testing.T) { // P13.3
	puts := []string{"", "/", "*/", "\"", "\n"}
	eachText([]string{"/", "*", "\"", "a", "\n"}, 2, func(s string) {
		eachEdit(s, puts, func(x edit) {
			eachEdit(x.to, puts, func(y edit) { wantComposed(t, s, x, y) })
		})
	})
	random := rand.New(rand.NewPCG(13, 4))
	for range 20000 {
		s := anyText(random, random.IntN(40), true)
		x := anyEdit(random, s)
		wantComposed(t, s, x, anyEdit(random, x.to))
	}
}

// TestManyEdits goes on with the tokens that each call has told.
func TestManyEdits(t *testing.T) { // P13.1, P13.3
	random := rand.New(rand.NewPCG(13, 5))
	for i := range 40 {
		s := anyText(random, random.IntN(200), i%2 == 0)
		tokens := lex.All(s)
		for range 150 {
			x := anyEdit(random, s)
			got := asked(tokens, x.to, x.old, x.now)
			if !got.same(wanted(x)) {
				t.Fatalf("%.80q to %.80q: %v", x.from, x.to, got)
			}
			s, tokens = x.to, got.is
			if len(s) < 200 {
				x = changed(s, len(s)/2, len(s)/2, anyText(random, 100, true))
				s, tokens = x.to, asked(tokens, x.to, x.old, x.now).is
			}
		}
	}
}

// TestOwnMemory overwrites what is told, and looks at what was passed, up to its capacity.
func TestOwnMemory(t *testing.T) { // P0.4
	mark := api.Token{Kind: 77, Width: 777, Look: 7777}
	for _, s := range append(programs(), "a b c") {
		for a := range len(s) + 1 {
			x := changed(s, a, a, " y ")
			was := append(lex.All(s), times(9, mark)...)
			kept := slices.Clone(was)
			passed := was[: len(was)-9 : len(was)]
			first := asked(passed, x.to, x.old, x.now)
			again := asked(passed, x.to, x.old, x.now)
			if !slices.Equal(was, kept) {
				t.Fatalf("%.80q: the list that was passed is changed", s)
			}
			for i := range first.is[:cap(first.is)] {
				first.is[:cap(first.is)][i] = mark
			}
			if !slices.Equal(was, kept) || !again.same(wanted(x)) {
				t.Fatalf("%.80q: what is told shares memory", s)
			}
		}
	}
}

func TestNil(t *testing.T) { // P0.1, P0.4
	for _, was := range [][]api.Token{nil, {}} {
		if got := asked(was, "", span(0, 0), span(0, 0)); !got.same(answer{}) {
			t.Errorf("no tokens: %v", got)
		}
		if got := asked(was, "a;", span(0, 0), span(0, 2)); !got.same(answer{is: lex.All("a;"), newEnd: 2}) {
			t.Errorf("no tokens: %v", got)
		}
	}
}
