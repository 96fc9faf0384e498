package mover_test

import (
	"math"
	"slices"
	"testing"

	"ambry/api"
	"ambry/mover"
)

// The chapter's example, with a second page that has any number of items.
func TestExample(t *testing.T) {
	ofEach(t, func(t *testing.T, kind int) {
		for n := 1; n <= 8; n++ {
			w := newTwin(t, small(2, kind), 1)
			w.fill("abcdefgh")
			second := "ijklmnop"[:n]
			w.fill(second)
			w.has(0, 0, 1)
			w.note(1)
			w.quiet()
			w.moving(1, 1)
			w.drops(second)
			w.moving(1, 1)
			w.quiet()
			w.moving(-1, -1)
			w.has(0, 0)
			w.has(1, 1)
			w.keys("abcdefgh")
		}
	})
}

// Ahead of every's turn nothing is decided, at it it is, and behind it the turns begin anew.
func TestTurns(t *testing.T) {
	for _, every := range []int{1, 2, 3, 4, 5, 7, 10, 63, 64, 100} {
		w := newTwin(t, small(10, 0), every)
		w.deal(0, 0, 0, 0, 0, 0, 0, 0, 0, 0)
		for round := range 4 {
			w.note(1, 1)
			for turn := 1; turn < every; turn++ {
				w.quiet()
				w.moving(-1, -1)
				w.lacks(0, 2, 0, 0)
			}
			w.quiet()
			w.moving(9-round, 1)
			w.lacks(0, 0, 0, 0)
			w.quiet()
			w.moving(-1, -1)
		}
		w.has(1, 6, 7, 8, 9)
	}
}

// Turns are taken whether or not somebody lacks, and whenever it was: what is noted just ahead of the turn counts.
func TestTurnsWithoutNotes(t *testing.T) {
	for every := 1; every <= 6; every++ {
		for steps := range 20 {
			w := newTwin(t, small(3, 0), every)
			w.deal(0, 0, 0)
			for range steps {
				w.quiet()
			}
			w.moving(-1, -1)
			w.note(2)
			for range every - steps%every - 1 {
				w.quiet()
				w.moving(-1, -1)
				w.lacks(0, 0, 1, 0)
			}
			w.quiet()
			w.moving(2, 2)
			w.lacks(0, 0, 0, 0)
		}
	}
}

// With a great every it is not decided for long.
func TestTurnsOfMany(t *testing.T) {
	w := newTwin(t, small(3, 0), math.MaxInt)
	w.deal(0, 0, 0)
	w.note(1)
	w.quick = true
	for range 5000 {
		w.quiet()
		w.moving(-1, -1)
	}
	w.lacks(0, 1, 0, 0)
	w = newTwin(t, small(3, 0), 5000)
	w.deal(0, 0, 0)
	w.quick = true
	for i := range 15000 {
		w.quiet()
		w.moving(-1, -1)
		if i%5000 == 4998 {
			w.lacks(0, 0, 0, 0)
		}
	}
	w.note(1)
	for range 4999 {
		w.quiet()
		w.moving(-1, -1)
	}
	w.quiet()
	w.moving(2, 1)
}

// While a page is under way there are no turns: they go on, from 0, behind its coming.
func TestNoTurnsUnderWay(t *testing.T) {
	for every := 1; every <= 12; every++ {
		w := newTwin(t, small(3, 0), every)
		w.fill("abcdefghijklmnopqrstuvwx")
		w.note(1)
		for range every {
			w.moving(-1, -1)
			w.quiet()
		}
		w.moving(2, 1)
		w.drops("qrst")
		w.note(2)
		w.drops("uvwx")
		w.quiet()
		for range every {
			w.moving(-1, -1)
			w.lacks(0, 0, 1, 0)
			w.quiet()
		}
		w.moving(1, 2)
		w.lacks(0, 0, 0, 0)
	}
}

// Several that lacked equally often: the least of them.
func TestEquallyOften(t *testing.T) {
	for _, p := range []struct {
		notes []int
		to    int
	}{
		{[]int{0, 1, 2, 3}, 0}, {[]int{3, 2, 1, 0}, 0}, {[]int{1, 2, 3}, 1}, {[]int{3, 2}, 2}, {[]int{2, 3}, 2}, {[]int{3}, 3}, {[]int{3, 3, 2, 2, 1}, 2},
		{[]int{3, 0, 3, 0, 1}, 0}, {[]int{1, 3, 3}, 3}, {[]int{0, 1, 1, 0, 1}, 1}, {[]int{0, 1, 2, 3, 3}, 3}, {[]int{62, 62, 62, 3, 3, 1, 1, 0}, 1},
	} {
		w := newTwin(t, small(12, 0), 1)
		w.deal(0, 0, 0, 1, 1, 1, 2, 2, 2, 3, 3, 3)
		w.note(p.notes...)
		w.quiet()
		if _, to := w.m.Moving(); to != p.to {
			t.Errorf("R2: of the notes %d the recipient is %d; want %d", p.notes, to, p.to)
		}
		w.quiet()
	}
}

// Several with equally many pages: the greatest of them; its greatest page.
func TestEquallyManyPages(t *testing.T) {
	for _, p := range []struct {
		deal  []int
		to    int
		moved int
	}{
		{[]int{0, 0, 1, 1, 2, 2, 3, 3}, 0, 7}, {[]int{3, 3, 2, 2, 1, 1, 0, 0}, 0, 1}, {[]int{0, 0, 1, 1, 2, 2, 3, 3}, 3, 5}, {[]int{3, 0, 1, 0, 1, 3}, 2, 5},
		{[]int{0, 1, 0, 1, 2}, 3, 3}, {[]int{1, 0, 1, 0, 2}, 3, 2}, {[]int{1, 0, 1, 0, 0}, 3, 4}, {[]int{0, 1, 1, 0, 2, 2, 0}, 1, 6}, {[]int{0, 1, 1, 0, 2, 2, 0}, 0, 5},
	} {
		w := newTwin(t, small(12, 0), 1)
		w.deal(p.deal...)
		w.note(p.to)
		w.quiet()
		w.moving(p.moved, p.to)
		w.quiet()
		w.moving(-1, -1)
		if !slices.Contains(w.s.Pages(p.to), p.moved) {
			t.Errorf("R2: of the pages of %d %d is not %d's then: %d", p.deal, p.moved, p.to, w.s.Pages(p.to))
		}
	}
}

// The recipient has most pages itself: the donor is who has most of the others.
func TestRecipientHasMost(t *testing.T) {
	for _, p := range []struct {
		deal      []int
		to, moved int
	}{
		{[]int{0, 0, 0, 1, 1}, 0, 4}, {[]int{3, 3, 3, 1, 1, 0}, 3, 4}, {[]int{2, 2, 2, 2, 1, 1, 0, 0}, 2, 5}, {[]int{1, 1, 1, 0, 0, 3, 3}, 1, 6},
		{[]int{0, 0, 0, 0, 1, 2, 3}, 0, -1}, {[]int{3, 3, 3}, 3, -1}, {[]int{2, 2, 1}, 2, -1}, {[]int{0, 0}, 0, -1},
	} {
		w := newTwin(t, small(12, 0), 1)
		w.deal(p.deal...)
		w.note(p.to, p.to)
		w.quiet()
		to := p.to
		if p.moved < 0 {
			to = -1
		}
		w.moving(p.moved, to)
		w.lacks(0, 0, 0, 0)
	}
}

// A donor that has one page, or none, keeps it; with two it gives one.
func TestDonorOfOne(t *testing.T) {
	w := newTwin(t, small(5, 0), 1)
	keeps := func(class int) {
		t.Helper()
		w.note(class, class, class)
		w.quiet()
		w.moving(-1, -1)
		w.lacks(0, 0, 0, 0)
	}
	for class := range 4 {
		keeps(class)
	}
	w.set("a", 1)
	for class := range 4 {
		keeps(class)
	}
	w.set("A", 50)
	w.set("x", 100)
	w.set("y", 300)
	for class := range 4 {
		keeps(class)
	}
	w.set("z", 300)
	keeps(3)
	w.note(1)
	w.quiet()
	w.moving(4, 1)
	w.drops("z")
	w.quiet()
	w.has(0, 0)
	w.has(1, 1, 4)
	w.has(2, 2)
	w.has(3, 3)
}

// Nobody lacked: nobody gets a page, though there are donors.
func TestNobodyLacked(t *testing.T) {
	w := newTwin(t, small(6, 0), 2)
	w.deal(0, 0, 3, 3, 2, 2)
	for range 20 {
		w.quiet()
		w.moving(-1, -1)
	}
	w.has(0, 0, 1)
	w.has(3, 2, 3)
	// A store without a page, or with none that is granted, is as well.
	w = newTwin(t, small(6, 0), 1)
	for range 20 {
		w.quiet()
		w.moving(-1, -1)
	}
	w.note(0, 1, 2, 3)
	w.quiet()
	w.moving(-1, -1)
	w.lacks(0, 0, 0, 0)
}

// Behind each decision nothing lacked, also what did but did not come first, and also where no page goes: it is not made up for later.
func TestNothingLackedThen(t *testing.T) {
	for _, deal := range [][]int{{0, 0, 0}, {0, 1, 2}, {1, 1, 0}} {
		w := newTwin(t, small(4, 0), 1)
		w.deal(deal...)
		w.note(1, 1, 1, 2, 2, 3, 0, 0, 40, 62)
		w.lacks(2, 3, 2, 1)
		w.quiet()
		for class := range 63 {
			if n := w.m.Lacks(class); n != 0 {
				t.Errorf("R2: behind a decision Lacks(%d) = %d", class, n)
			}
		}
		for range 3 {
			w.quiet()
		}
		w.moving(-1, -1)
		w.note(2)
		w.lacks(0, 0, 1, 0)
	}
}

// What lacks while a page is under way stands till the decision that is behind its coming.
func TestLacksUnderWay(t *testing.T) {
	w := newTwin(t, small(3, 0), 1)
	w.fill("abcdefghijklmnopqrstuvwx")
	w.note(3)
	w.quiet()
	w.moving(2, 3)
	for i, key := range []string{"q", "r", "s", "t", "u", "v", "w", "x"} {
		w.note(2, 2, 1)
		w.lacks(0, i+1, 2*i+2, 0)
		w.drops(key)
		w.lacks(0, i+1, 2*i+2, 0)
		w.moving(2, 3)
	}
	w.note(0)
	w.quiet()
	w.moving(-1, -1)
	w.lacks(1, 8, 16, 0)
	w.quiet()
	w.moving(1, 2)
	w.lacks(0, 0, 0, 0)
}

// Several decisions one behind the other, till nobody has one to give.
func TestDecisions(t *testing.T) {
	ofEach(t, func(t *testing.T, kind int) {
		w := newTwin(t, small(4, kind), 1)
		w.fill("abcdefghijklmnopqrstuvwxyzABCDEF")
		goes := func(to, page int, keys string) {
			t.Helper()
			w.note(to)
			w.quiet()
			w.moving(page, to)
			w.drops(keys)
			w.quiet()
			w.moving(-1, -1)
		}
		goes(3, 3, "yzABCDEF")
		goes(2, 2, "qrstuvwx")
		goes(1, 1, "ijklmnop")
		w.has(0, 0)
		w.has(1, 1)
		w.has(2, 2)
		w.has(3, 3)
		for class := range 4 {
			w.note(class)
			w.quiet()
			w.moving(-1, -1)
		}
		w.keys("abcdefgh")
		w.set("A", 50)
		w.set("B", 100)
		w.set("C", 300)
		w.at("A", 4096)
		w.at("B", 8192)
		w.at("C", 12288)
	})
}

// One page goes to and fro, as often as somebody lacks it.
func TestToAndFro(t *testing.T) {
	ofEach(t, func(t *testing.T, kind int) {
		w := newTwin(t, small(3, kind), 2)
		w.deal(0, 0, 1)
		for i := range 10 {
			to := 1 - i%2
			w.note(to, to, 2)
			w.quiet()
			w.moving(-1, -1)
			w.quiet()
			w.moving(min(2, 1+i), to)
			w.quiet()
			w.moving(-1, -1)
			w.counts(to, 2, 0, []int{16, 8}[to])
			w.counts(1-to, 1, 0, []int{8, 4}[1-to])
		}
	})
}

// All that the classes may have lacked and may have: who gets, who gives, and which page.
func TestAllDecisions(t *testing.T) {
	// A page's class for each count of pages: of each class one by turns, so that the greatest pages stand anywhere.
	deal := func(counts []int) []int {
		var l []int
		for round := range 4 {
			for class, n := range counts {
				if round < n {
					l = append(l, class)
				}
			}
		}
		return l
	}
	for i := range 256 {
		pages := []int{i / 64, i / 16 % 4, i / 4 % 4, i % 4}
		t.Run("", func(t *testing.T) {
			t.Parallel()
			w := newTwin(t, small(12, 0), 1)
			w.deal(deal(pages)...)
			for j := range 81 {
				w.decides([]int{j / 27, j / 9 % 3, j / 3 % 3, j % 3})
			}
		})
	}
}

// decides holds what a decision comes to if the classes lacked so often, and undoes it.
func (w *twin) decides(lacked []int) {
	w.t.Helper()
	w.quick = true
	w.m, w.p = mover.New(1), newPlain(1)
	for class, n := range lacked {
		w.note(slices.Repeat([]int{class}, n)...)
	}
	to := slices.Index(lacked, slices.Max(lacked))
	from, most := -1, 0
	for class := range lacked {
		if n := len(w.s.Pages(class)); class != to && n >= most {
			from, most = class, n
		}
	}
	w.quiet()
	if lacked[to] == 0 || most < 2 {
		w.moving(-1, -1)
		w.same()
		return
	}
	page := w.s.Pages(from)[most-1]
	w.moving(page, to)
	w.quiet()
	w.moving(-1, -1)
	w.same()
	for _, e := range []api.Errno{w.s.Close(page), w.s.Move(page, from), w.other.Close(page), w.other.Move(page, from)} {
		if e != api.OK {
			w.t.Fatalf("Q4: page %d can't go back to %d: %d", page, from, e)
		}
	}
}
