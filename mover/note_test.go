package mover_test

import (
	"math"
	"testing"

	"ambry/api"
	"ambry/mover"
	"ambry/store"
)

// New of numbers below 1 is nil; of others nothing is counted, and nothing is under way (R1).
func TestNew(t *testing.T) {
	for _, every := range []int{0, -1, -2, -1000, -1 << 32, 1 - 1<<32, math.MinInt, math.MinInt + 1} {
		if m := mover.New(every); m != nil {
			t.Errorf("R1: New(%d) = %v; want nil", every, m)
		}
	}
	for _, every := range []int{1, 2, 3, 62, 63, 64, 1000, 1 << 32, math.MaxInt} {
		m := mover.New(every)
		if m == nil {
			t.Fatalf("R1: New(%d) is nil", every)
		}
		if page, class := m.Moving(); page != -1 || class != -1 {
			t.Errorf("R1: of New(%d) Moving() = %d, %d; want -1, -1", every, page, class)
		}
		for class := -1; class <= 63; class++ {
			if n := m.Lacks(class); n != 0 {
				t.Errorf("R1: of New(%d) Lacks(%d) = %d", every, class, n)
			}
		}
	}
}

// Each class of 0 to 62 is counted by itself (R1).
func TestNote(t *testing.T) {
	m := mover.New(1)
	want := map[int]int{}
	for i := range 63 * 20 {
		class := i * i % 63
		m.Note(class)
		want[class]++
		for c := -1; c <= 63; c++ {
			if n := m.Lacks(c); n != want[c] {
				t.Fatalf("R1: behind %d Notes Lacks(%d) = %d; want %d", i+1, c, n, want[c])
			}
		}
	}
	for _, class := range []int{0, 62, 1, 61} {
		m := mover.New(1)
		for i := range 1000 {
			if n := m.Lacks(class); n != i {
				t.Fatalf("R1: Lacks(%d) = %d; want %d", class, n, i)
			}
			m.Note(class)
		}
		for c := range 63 {
			if n := m.Lacks(c); n != 0 && c != class {
				t.Errorf("R1: Note(%d) counts for %d", class, c)
			}
		}
	}
}

// Of what is no class nothing is counted, and nothing else is changed by it (R1).
func TestNoteOfNone(t *testing.T) {
	m := mover.New(3)
	for class := range 63 {
		for range class % 4 {
			m.Note(class)
		}
	}
	for _, class := range noClasses {
		m.Note(class)
		m.Note(class)
		if n := m.Lacks(class); n != 0 {
			t.Errorf("R1: Lacks(%d) = %d", class, n)
		}
		for c := range 63 {
			if n := m.Lacks(c); n != c%4 {
				t.Errorf("R1: behind Note(%d) Lacks(%d) = %d; want %d", class, c, n, c%4)
			}
		}
		if page, to := m.Moving(); page != -1 || to != -1 {
			t.Errorf("R1: behind Note(%d) Moving() = %d, %d", class, page, to)
		}
	}
}

// What is no class lacks nothing when it is decided: nobody gets a page.
func TestNoneLacks(t *testing.T) {
	w := newTwin(t, small(4, 0), 1)
	w.deal(0, 0, 0, 1)
	w.note(noClasses...)
	w.note(noClasses...)
	w.quiet()
	w.moving(-1, -1)
	w.has(0, 0, 1, 2)
}

// Asked as often as one likes, Lacks and Moving change nothing (R1).
func TestAsking(t *testing.T) {
	w := newTwin(t, small(3, 0), 2)
	w.deal(0, 0, 0)
	w.set("a", 1)
	w.note(1, 1, 2)
	for range 3 {
		w.lacks(0, 2, 1, 0)
		w.moving(-1, -1)
	}
	w.quiet()
	w.lacks(0, 2, 1, 0)
	w.quiet()
	for range 3 {
		w.lacks(0, 0, 0, 0)
		w.moving(2, 1)
	}
	w.at("a", 8192)
	w.quiet()
	w.at("a", 4096)
	w.moving(2, 1)
	w.quiet()
	w.moving(-1, -1)
	w.has(1, 2)
}

// A class that the store has not is counted, but is no recipient; it is 0 behind the decision, too.
func TestClassesOfNoStore(t *testing.T) {
	for _, class := range []int{4, 5, 61, 62} {
		w := newTwin(t, small(4, 0), 1)
		w.deal(0, 0, 0, 1)
		w.note(class, class, class)
		if n := w.m.Lacks(class); n != 3 {
			t.Errorf("R1: Lacks(%d) = %d; want 3", class, n)
		}
		w.quiet()
		w.moving(-1, -1)
		if n := w.m.Lacks(class); n != 0 {
			t.Errorf("R2: behind a decision Lacks(%d) = %d", class, n)
		}
		// Of those that the store has, one lacked less than that one.
		w.note(class, class, class, 2)
		w.quiet()
		w.moving(2, 2)
		if n := w.m.Lacks(class); n != 0 {
			t.Errorf("R2: behind a decision Lacks(%d) = %d", class, n)
		}
		w.quiet()
		w.has(2, 2)
	}
}

// Stores of few classes and of all 63: the last one is a recipient and a donor as the others are.
func TestLastClass(t *testing.T) {
	for _, c := range []api.Config{{Pages: 4, Page: 512, Factor: 400}, {Pages: 4, Page: 512, Factor: 200}, {Pages: 4, Page: 65536, Factor: 105}} {
		w := newTwin(t, c, 1)
		last := w.s.Classes() - 1
		w.deal(0, 0, last, last)
		w.note(last)
		w.quiet()
		w.moving(1, last)
		w.quiet()
		w.has(last, 1, 2, 3)
		w.note(0)
		w.quiet()
		w.moving(3, 0)
		w.quiet()
		w.has(0, 0, 3)
		w.note(last + 1)
		w.quiet()
		w.moving(-1, -1)
	}
	if s, _ := store.New(api.Config{Pages: 4, Page: 65536, Factor: 105}); s.Classes() != 63 {
		t.Errorf("there are %d classes; the test wants 63", s.Classes())
	}
}
