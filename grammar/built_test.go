package grammar

import (
	"reflect"
	"sync"
	"testing"

	"glossator/api"
)

// forget has the next call find nothing built.
func forget() {
	once, firstOf, followOf = sync.Once{}, sets{}, sets{}
}

// calls are the ones that need what is built, each with an answer that it has only then.
func needy() map[string]func() bool {
	return map[string]func() bool{
		"Begins":  func() bool { return Begins(107, api.TkNot) },
		"Empty":   func() bool { return Empty(107) },
		"First":   func() bool { return reflect.DeepEqual(First(api.NkUse), []uint8{api.TkName}) },
		"Follow":  func() bool { return reflect.DeepEqual(Follow(101), []uint8{0, api.TkEnd}) },
		"Choose":  func() bool { return Choose(102, api.TkNot) == 9 },
		"Clash":   func() bool { return !Clash() && firstOf != sets{} },
		"Accepts": func() bool { return Accepts(nil) && Accepts([]uint8{api.TkReturn, api.TkSemi}) },
	}
}

// TestFirstCall has each call be the first one.
func TestFirstCall(t *testing.T) { // P14.3 to P14.5
	for name, call := range needy() {
		forget()
		if !call() || !call() {
			t.Errorf("%s, called first", name)
		}
	}
	wantAllSets(t)
}

// TestBuiltOnce asks that nothing builds a second time.
func TestBuiltOnce(t *testing.T) {
	defer forget()
	for name, call := range needy() {
		forget()
		once.Do(func() {})
		if call() {
			t.Errorf("%s: built again", name)
		}
	}
}

// TestAtOnce has goroutines be the first ones together.
func TestAtOnce(t *testing.T) {
	for range 50 {
		forget()
		var all sync.WaitGroup
		for name, call := range needy() {
			for range 4 {
				all.Go(func() {
					if !call() {
						t.Errorf("%s, called at once", name)
					}
				})
			}
		}
		all.Wait()
	}
	wantAllSets(t)
}
