package dfa

import (
	"strings"
	"sync"
	"testing"

	"glossator/api"
)

// wantBuilt asks that the built table, the functions beside it, the exported ones and the chapter's table tell the same.
func wantBuilt(t *testing.T) {
	t.Helper()
	rows := built()
	if len(rows) != 35 || len(rows[0].to) != 24 {
		t.Fatalf("%d states, %d classes", len(rows), len(rows[0].to))
	}
	for state, r := range rows {
		if want := wantKind(state); r.kind != want || kind(state) != want || Kind(state) != want {
			t.Errorf("the kind of %d: %d in the table, %d told, %d by Kind, not %d", state, r.kind, kind(state), Kind(state), want)
		}
		some := false
		for class, to := range r.to {
			if want := wantStep(state, class); int(to) != want || leads(state, class) != want || Step(state, class) != want {
				t.Errorf("from %d by %d: %d in the table, %d told, %d by Step, not %d", state, class, to, leads(state, class), Step(state, class), want)
			}
			some = some || to != none
		}
		if leadsOn(state) != some || leadsOn(state) != (len(steps[state]) > 0) {
			t.Errorf("leadsOn(%d): %v", state, leadsOn(state))
		}
	}
}

func TestBuilt(t *testing.T) { // P11.2
	once, table = sync.Once{}, [states]row{}
	wantBuilt(t)
	wantBuilt(t)
}

// TestBuiltWhenNeeded has States find the table not built yet, and asks that nothing builds it a second time.
func TestBuiltWhenNeeded(t *testing.T) { // P11.2
	once, table = sync.Once{}, [states]row{}
	if States() != 35 || table == [states]row{} {
		t.Errorf("%d states, the table built: %v", States(), table != [states]row{})
	}
	wantBuilt(t)
	table = [states]row{}
	if States() != 35 || built() != [states]row{} {
		t.Error("built again")
	}
	once = sync.Once{}
	wantBuilt(t)
}

// TestBuiltAtOnce has goroutines ask for the table while it is not built yet.
func TestBuiltAtOnce(t *testing.T) { // P11.2
	for range 50 {
		once, table = sync.Once{}, [states]row{}
		var all sync.WaitGroup
		many, rows := make([]int, 8), make([][states]row, 8)
		for i := range many {
			all.Go(func() { many[i], rows[i] = States(), built() })
			all.Go(func() { Step(0, 1); Kind(1); Word("let"); Scan("let", 0) })
		}
		all.Wait()
		for i := range many {
			if many[i] != 35 || rows[i] != table {
				t.Fatalf("%d states, the table whole: %v", many[i], rows[i] == table)
			}
		}
		wantBuilt(t)
	}
}

// TestOwnRows overwrites the rows that built hands out.
func TestOwnRows(t *testing.T) { // P0.4
	rows := built()
	clear(rows[:])
	wantBuilt(t)
}

// TestAnswersWithoutTable has all calls while the table holds nothing, and while it holds wrong rows.
func TestAnswersWithoutTable(t *testing.T) { // P11.2 to P11.4
	wrong := [states]row{}
	for state := range wrong {
		wrong[state].kind = api.TkOr
		for class := range wrong[state].to {
			wrong[state].to[class] = int8((state + class) % states)
		}
	}
	for _, rows := range [][states]row{{}, wrong} {
		once, table = sync.Once{}, rows
		once.Do(func() {}) // nothing builds it now
		TestClassByHand(t)
		TestCounts(t)
		TestTable(t)
		TestTableByHand(t)
		TestWord(t)
		TestExamples(t)
		TestOperators(t)
		TestUnended(t)
		eachText(parts(), 2, func(s string) { want(t, s) })
		if table != rows {
			t.Error("a call wrote to the table")
		}
	}
	once, table = sync.Once{}, [states]row{}
	wantBuilt(t)
}

// TestNothingKept has Step, Kind, Word and Scan leave the variables as they are: only who asks for the table has it built.
func TestNothingKept(t *testing.T) { // P11.2 to P11.4
	once, table = sync.Once{}, [states]row{}
	for state := -1; state <= states; state++ {
		Kind(state)
		for class := -1; class <= classes; class++ {
			Step(state, class)
		}
	}
	for _, s := range append(words(), strings.Repeat("é\"/*", 9)) {
		Word(s)
		Scan(s, 0)
	}
	if table != [states]row{} {
		t.Error("the table was built, but nobody has read it")
	}
	wantBuilt(t)
}
