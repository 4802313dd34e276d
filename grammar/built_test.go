package grammar

import (
	"math/rand/v2"
	"reflect"
	"slices"
	"sync"
	"testing"

	"glossator/api"
)

// forget has the next call find nothing built.
func forget() {
	once, firstOf, followOf = sync.Once{}, sets{}, sets{}
}

// seal has the next call find these arrays, and nothing that builds others.
func seal(first, follow sets) {
	once, firstOf, followOf = sync.Once{}, first, follow
	once.Do(func() {})
}

// calls are all that need FIRST and FOLLOW, each with an answer that it has only with the right ones.
func needy() map[string]func() bool {
	return map[string]func() bool{
		"Begins":  func() bool { return Begins(107, api.TkNot) },
		"Empty":   func() bool { return Empty(107) },
		"First":   func() bool { return reflect.DeepEqual(First(api.NkUse), []uint8{api.TkName}) },
		"Follow":  func() bool { return reflect.DeepEqual(Follow(101), []uint8{0, api.TkEnd}) },
		"Choose":  func() bool { return Choose(102, api.TkNot) == 9 },
		"Clash":   func() bool { return !Clash() && firstOf != sets{} },
		"Accepts": func() bool { return Accepts(nil) && Accepts([]uint8{api.TkReturn, api.TkSemi}) },
	}
}

// wantBuilt asks that what is built, what the functions beside it tell, what the exported ones tell and what the reference has are the same for each number.
func wantBuilt(t *testing.T) {
	t.Helper()
	g := theChapter()
	first, follow := built()
	if first != beginnings() || follow != followings() || len(first) != 256 || len(follow) != 256 {
		t.Error("what is built isn't what is told")
	}
	for n := range 256 {
		part := uint8(n)
		if first[part] != beginning(part) || follow[part] != following(part) || beginnings()[part] != beginning(part) || followings()[part] != following(part) {
			t.Errorf("%d: FIRST %b built, %b told; FOLLOW %b built, %b told", part, first[part], beginning(part), follow[part], following(part))
		}
		if first[part].has(nothing) != g.empty(part) || beginning(part).has(nothing) != g.empty(part) {
			t.Errorf("%d is nullable: %v built, %v told", part, first[part].has(nothing), beginning(part).has(nothing))
		}
		wantKinds(t, "FIRST, built,", part, first[part].without(nothing).kinds(), g.first[part]...)
		wantKinds(t, "FIRST, told,", part, beginning(part).without(nothing).kinds(), g.first[part]...)
		wantKinds(t, "FOLLOW, built,", part, follow[part].kinds(), g.follow[part]...)
		wantKinds(t, "FOLLOW, told,", part, following(part).kinds(), g.follow[part]...)
		if (first[part]|follow[part])>>beyond != 0 {
			t.Errorf("%d has numbers beyond the kinds", part)
		}
	}
	wantAllSets(t)
}

func TestBuilt(t *testing.T) { // P14.3
	forget()
	wantBuilt(t)
	wantBuilt(t)
}

// TestFitting asks that each rule fits the same by what is built and by what is told.
func TestFitting(t *testing.T) { // P14.4
	first, follow := built()
	byBuilt, byTold := fitting(all(), first, follow), fitting(all(), beginnings(), followings())
	if len(byTold) != 74 || !slices.Equal(byBuilt, byTold) {
		t.Errorf("%b, %b", byBuilt, byTold)
	}
}

// TestFirstCall has each call be the first one.
func TestFirstCall(t *testing.T) { // P14.3 to P14.5
	for name, call := range needy() {
		forget()
		if !call() || !call() {
			t.Errorf("%s, called first", name)
		}
	}
	wantAllSets(t)
}

// TestBuiltOnce asks that Clash, which reads what is built, does not build it a second time.
func TestBuiltOnce(t *testing.T) { // P14.4
	defer forget()
	call := needy()["Clash"]
	seal(sets{}, sets{})
	if call() {
		t.Error("Clash: built again")
	}
	if first, follow := built(); first != (sets{}) || follow != (sets{}) {
		t.Error("built again")
	}
	forget()
	if !call() {
		t.Error("Clash, called first")
	}
	firstOf, followOf = sets{}, sets{}
	if call() {
		t.Error("Clash: built again behind itself")
	}
}

// TestClashReads has Clash find arrays by which rules do clash: in what begins them, and in what follows.
func TestClashReads(t *testing.T) { // P14.4
	defer forget()
	first, follow := beginnings(), followings()
	first[api.NkLet] |= only(api.TkFn)
	seal(first, follow)
	if !Clash() {
		t.Error("FIRST isn't read")
	}
	first = beginnings()
	follow[103] |= only(api.TkName)
	seal(first, follow)
	if !Clash() {
		t.Error("FOLLOW isn't read")
	}
	seal(beginnings(), followings())
	if Clash() {
		t.Error("Clash: true")
	}
}

// TestAtOnce has goroutines be the first ones together.
func TestAtOnce(t *testing.T) { // P14.3 to P14.5
	for range 50 {
		forget()
		var all sync.WaitGroup
		for name, call := range needy() {
			for range 4 {
				all.Go(func() {
					if !call() {
						t.Errorf("%s, called at once", name)
					}
				})
			}
		}
		all.Wait()
	}
	wantAllSets(t)
}

// wrongSets hold a bit for each kind, or those of other parts.
func wrongSets() []sets {
	var full, moved sets
	for part := range full {
		full[part] = 1<<beyond - 1
		moved[part] = beginning(uint8(part+1)) ^ following(uint8(part))
	}
	return []sets{{}, full, moved}
}

// TestAnswersWithoutArrays has all calls but Clash while the arrays hold nothing, and while they hold wrong sets.
func TestAnswersWithoutArrays(t *testing.T) { // P14.1 to P14.5, P14.8
	defer forget()
	g := theChapter()
	random := rand.New(rand.NewPCG(14, 46))
	for _, wrong := range wrongSets() {
		seal(wrong, wrong)
		wantAllSets(t)
		TestExamples(t)
		TestStatementAndLevel(t)
		TestRules(t)
		TestNoParts(t)
		TestAscending(t)
		TestAtTheEnd(t)
		TestChooseByHand(t)
		TestAgreement(t)
		for _, text := range append(rightTexts(), wrongTexts()...) {
			if kinds := row(t, text); Accepts(kinds) != g.derives(api.NkFile, kinds) {
				t.Errorf("%q: %v", text, Accepts(kinds))
			}
		}
		for i := range 200 {
			if kinds := file(g, random, i); !Accepts(kinds) {
				t.Errorf("%v isn't accepted", kinds)
			}
		}
		if firstOf != wrong || followOf != wrong {
			t.Error("a call wrote to the arrays")
		}
	}
}

// TestNothingKept has all calls but Clash leave the variables as they are: only who asks for the arrays has them built.
func TestNothingKept(t *testing.T) { // P14.1 to P14.5
	forget()
	for part := range 256 {
		First(uint8(part))
		Follow(uint8(part))
		Empty(uint8(part))
		Statement(uint8(part))
		Level(uint8(part))
		for kind := range 256 {
			Begins(uint8(part), uint8(kind))
			Choose(uint8(part), uint8(kind))
		}
	}
	Rules()
	for _, text := range append(rightTexts(), wrongTexts()...) {
		Accepts(row(t, text))
	}
	if firstOf != (sets{}) || followOf != (sets{}) {
		t.Error("the arrays were built, but nobody has read them")
	}
	if Clash() || firstOf == (sets{}) || followOf == (sets{}) {
		t.Error("Clash has not had them built")
	}
	wantBuilt(t)
}
