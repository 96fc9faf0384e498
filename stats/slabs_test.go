package stats_test

import (
	"math/rand"
	"slices"
	"testing"

	"ambry/api"
	"ambry/mover"
	"ambry/sizes"
	"ambry/stats"
	"ambry/store"
)

// kept is a store, and which of its pages are closed.
type kept struct {
	t      *testing.T
	s      *store.Store
	config api.Config
	closed map[int]bool
}

func newKept(t *testing.T, c api.Config) *kept {
	t.Helper()
	w := &kept{t: t, s: newStore(t, c), config: c, closed: map[int]bool{}}
	w.tells("STAT total_pages 0")
	return w
}

// tells holds the report, as it is told by hand, and by the chapter's words.
func (w *kept) tells(want ...string) {
	w.t.Helper()
	if l := stats.Slabs(w.s); !slices.Equal(l, want) {
		w.t.Fatalf("S2: Slabs = %q\nwant %q", l, want)
	}
	w.same()
}

// same holds the report by the chapter's words.
func (w *kept) same() {
	w.t.Helper()
	if l, want := stats.Slabs(w.s), slabLines(w.s, w.config, w.closed); !slices.Equal(l, want) {
		w.t.Fatalf("S2: Slabs = %q\nwant %q", l, want)
	}
}

func (w *kept) do(c api.Command, status int) {
	w.t.Helper()
	if a, _ := w.s.Do(now, c); a.Status != status {
		w.t.Fatalf("Q2: %s is answered %s; want %d", show(c), show(a), status)
	}
}

// set stores n bytes.
func (w *kept) set(key string, n int) {
	w.t.Helper()
	w.do(setting(key, n), api.Stored)
}

func (w *kept) drop(key string) {
	w.t.Helper()
	w.do(command(api.OpDelete, key), api.Deleted)
}

func (w *kept) close(page int) {
	w.t.Helper()
	if e := w.s.Close(page); e != api.OK {
		w.t.Fatalf("Q4: Close(%d) = %v", page, e)
	}
	w.closed[page] = true
}

func (w *kept) open(page int) {
	w.t.Helper()
	if e := w.s.Open(page); e != api.OK {
		w.t.Fatalf("Q4: Open(%d) = %v", page, e)
	}
	delete(w.closed, page)
}

func (w *kept) move(page, class int) {
	w.t.Helper()
	if e := w.s.Move(page, class); e != api.OK {
		w.t.Fatalf("Q4: Move(%d, %d) = %v", page, class, e)
	}
	delete(w.closed, page)
}

// The chapter's example.
func TestSlabsExample(t *testing.T) {
	ofEach(t, func(t *testing.T, kind int) {
		w := newKept(t, small(1, kind))
		w.set("k", 1)
		w.tells("STAT 0:pages 1", "STAT 0:used 1", "STAT 0:free 7", "STAT total_pages 1")
	})
}

// While no class has a page there is the last line alone, whatever was asked (S2).
func TestSlabsWithoutAPage(t *testing.T) {
	w := newKept(t, small(3, 0))
	for _, op := range []int{api.OpGet, api.OpMath, api.OpTouch, api.OpDelete, api.OpLook} {
		w.do(command(op, "k"), api.NotFound)
		w.tells("STAT total_pages 0")
	}
	w.do(setting("k", 600), api.TooLarge)
	w.do(flushing(0), api.Flushed)
	w.do(command(api.OpGet, ""), 0)
	w.tells("STAT total_pages 0")
}

// One page, from its first item to its last one, and with more than it can hold (S2).
func TestSlabsOfOnePage(t *testing.T) {
	ofEach(t, func(t *testing.T, kind int) {
		w := newKept(t, small(1, kind))
		frees := []string{"7", "6", "5", "4", "3", "2", "1", "0"}
		for i, free := range frees {
			w.set(name(i), 1)
			w.tells("STAT 0:pages 1", "STAT 0:used "+string(rune('1'+i)), "STAT 0:free "+free, "STAT total_pages 1")
		}
		for i := range 3 {
			w.set(name(8+i), 1)
			w.tells("STAT 0:pages 1", "STAT 0:used 8", "STAT 0:free 0", "STAT total_pages 1")
		}
		w.do(setting("large", 200), api.NoMemory)
		w.tells("STAT 0:pages 1", "STAT 0:used 8", "STAT 0:free 0", "STAT total_pages 1")
		// It is stored anew in the place it has.
		w.set(name(10), 2)
		w.tells("STAT 0:pages 1", "STAT 0:used 8", "STAT 0:free 0", "STAT total_pages 1")
		w.drop(name(10))
		w.tells("STAT 0:pages 1", "STAT 0:used 7", "STAT 0:free 1", "STAT total_pages 1")
	})
}

// The one class that has a page is told by its number, and none below it (S2).
func TestSlabsOfEachClass(t *testing.T) {
	for _, is := range []struct {
		n    int
		want []string
	}{
		{1, []string{"STAT 0:pages 1", "STAT 0:used 1", "STAT 0:free 7", "STAT total_pages 1"}},
		{60, []string{"STAT 1:pages 1", "STAT 1:used 1", "STAT 1:free 3", "STAT total_pages 1"}},
		{200, []string{"STAT 2:pages 1", "STAT 2:used 1", "STAT 2:free 1", "STAT total_pages 1"}},
		{400, []string{"STAT 3:pages 1", "STAT 3:used 1", "STAT 3:free 0", "STAT total_pages 1"}},
	} {
		w := newKept(t, small(3, 0))
		w.set("k", is.n)
		w.tells(is.want...)
	}
}

// Pages of several classes: class by class, whichever came first; a class that has none is left out (S2).
func TestSlabsOfSeveralClasses(t *testing.T) {
	w := newKept(t, small(9, 0))
	w.set("a", 400)
	w.set("b", 60)
	w.tells("STAT 1:pages 1", "STAT 1:used 1", "STAT 1:free 3", "STAT 3:pages 1", "STAT 3:used 1", "STAT 3:free 0", "STAT total_pages 2")
	w.set("c", 1)
	w.tells("STAT 0:pages 1", "STAT 0:used 1", "STAT 0:free 7", "STAT 1:pages 1", "STAT 1:used 1", "STAT 1:free 3", "STAT 3:pages 1", "STAT 3:used 1", "STAT 3:free 0", "STAT total_pages 3")
	w.set("d", 400)
	w.set("e", 200)
	w.set("f", 400)
	w.set("g", 60)
	for i := range 9 {
		w.set(name(i), 3)
	}
	w.tells(
		"STAT 0:pages 2", "STAT 0:used 10", "STAT 0:free 6",
		"STAT 1:pages 1", "STAT 1:used 2", "STAT 1:free 2",
		"STAT 2:pages 1", "STAT 2:used 1", "STAT 2:free 1",
		"STAT 3:pages 3", "STAT 3:used 3", "STAT 3:free 0",
		"STAT total_pages 7")
}

// A class whose pages have no item any more is told all the same (S2).
func TestSlabsWithoutUsedChunks(t *testing.T) {
	w := newKept(t, small(4, 0))
	w.set("a", 1)
	w.set("b", 60)
	w.drop("a")
	w.tells("STAT 0:pages 1", "STAT 0:used 0", "STAT 0:free 8", "STAT 1:pages 1", "STAT 1:used 1", "STAT 1:free 3", "STAT total_pages 2")
	w.set("c", 400)
	w.set("d", 400)
	w.do(flushing(0), api.Flushed)
	w.tells("STAT 0:pages 1", "STAT 0:used 0", "STAT 0:free 8", "STAT 1:pages 1", "STAT 1:used 0", "STAT 1:free 4", "STAT 3:pages 2", "STAT 3:used 0", "STAT 3:free 2", "STAT total_pages 4")
}

// Items that are gone, but not yet asked for, are used chunks still (S2: as Counts tell).
func TestSlabsOfGoneItems(t *testing.T) {
	w := newKept(t, small(1, 0))
	c := setting("k", 1)
	c.Exp = -1
	w.do(c, api.Stored)
	w.set("l", 1)
	w.tells("STAT 0:pages 1", "STAT 0:used 2", "STAT 0:free 6", "STAT total_pages 1")
	w.do(command(api.OpGet, "k"), api.NotFound)
	w.tells("STAT 0:pages 1", "STAT 0:used 1", "STAT 0:free 7", "STAT total_pages 1")
}

// Pages that are closed are told, and their used chunks; their free ones are not, till they are opened or moved (S2).
func TestSlabsWithClosedPages(t *testing.T) {
	w := newKept(t, small(4, 0))
	for i := range 10 {
		w.set(name(i), 1)
	}
	w.set("b", 60)
	other := []string{"STAT 1:pages 1", "STAT 1:used 1", "STAT 1:free 3", "STAT total_pages 3"}
	w.tells(append([]string{"STAT 0:pages 2", "STAT 0:used 10", "STAT 0:free 6"}, other...)...)
	w.close(1)
	w.tells(append([]string{"STAT 0:pages 2", "STAT 0:used 10", "STAT 0:free 0"}, other...)...)
	w.drop(name(0))
	w.tells(append([]string{"STAT 0:pages 2", "STAT 0:used 9", "STAT 0:free 1"}, other...)...)
	w.drop(name(9))
	w.tells(append([]string{"STAT 0:pages 2", "STAT 0:used 8", "STAT 0:free 1"}, other...)...)
	w.open(1)
	w.tells(append([]string{"STAT 0:pages 2", "STAT 0:used 8", "STAT 0:free 8"}, other...)...)
	w.close(0)
	w.close(1)
	w.tells(append([]string{"STAT 0:pages 2", "STAT 0:used 8", "STAT 0:free 0"}, other...)...)
	w.do(flushing(0), api.Flushed)
	w.tells("STAT 0:pages 2", "STAT 0:used 0", "STAT 0:free 0", "STAT 1:pages 1", "STAT 1:used 0", "STAT 1:free 4", "STAT total_pages 3")
	w.move(0, 3)
	w.tells("STAT 0:pages 1", "STAT 0:used 0", "STAT 0:free 0", "STAT 1:pages 1", "STAT 1:used 0", "STAT 1:free 4", "STAT 3:pages 1", "STAT 3:used 0", "STAT 3:free 1", "STAT total_pages 3")
	w.move(1, 1)
	w.tells("STAT 1:pages 2", "STAT 1:used 0", "STAT 1:free 8", "STAT 3:pages 1", "STAT 3:used 0", "STAT 3:free 1", "STAT total_pages 3")
}

// The only page, closed and empty, is a page still (S2).
func TestSlabsOfOneClosedPage(t *testing.T) {
	w := newKept(t, small(1, 0))
	w.set("k", 1)
	w.close(0)
	w.tells("STAT 0:pages 1", "STAT 0:used 1", "STAT 0:free 0", "STAT total_pages 1")
	w.drop("k")
	w.tells("STAT 0:pages 1", "STAT 0:used 0", "STAT 0:free 0", "STAT total_pages 1")
}

// Classes of two digits stand behind those of one: by number, not by letters (S2).
func TestSlabsOfManyClasses(t *testing.T) {
	w := newKept(t, api.Config{Pages: 70, Page: 65536, Factor: 105})
	chunks, e := sizes.New(65536, 105)
	if e != api.OK || len(chunks) < 63 {
		t.Fatalf("E1: there are %d classes", len(chunks))
	}
	// From the greatest one on, so that the order of the pages is another one.
	for class := len(chunks) - 1; class >= 0; class-- {
		w.set(name(class), chunks[class]-api.Head-3)
		w.same()
	}
	l := stats.Slabs(w.s)
	if len(l) != 63*3+1 || l[0] != "STAT 0:pages 1" || l[27] != "STAT 9:pages 1" || l[30] != "STAT 10:pages 1" || l[186] != "STAT 62:pages 1" || l[189] != "STAT total_pages 63" {
		t.Fatalf("S2: Slabs = %q", l)
	}
	for i := range 5 {
		w.set("more"+name(i), 60000)
	}
	l = stats.Slabs(w.s)
	if want := []string{"STAT 62:pages 6", "STAT 62:used 6", "STAT 62:free 0", "STAT total_pages 68"}; !slices.Equal(l[186:], want) {
		t.Fatalf("S2: Slabs = .. %q; want %q", l[186:], want)
	}
}

// As many pages as there can be, and as many chunks of one as it can have (S2).
func TestSlabsOfManyPages(t *testing.T) {
	w := newKept(t, small(1024, 0))
	for i := range 1023 {
		w.set("large"+name(i/256)+name(i%256), 400)
	}
	w.set("k", 1)
	w.tells("STAT 0:pages 1", "STAT 0:used 1", "STAT 0:free 7", "STAT 3:pages 1023", "STAT 3:used 1023", "STAT 3:free 0", "STAT total_pages 1024")
	w = newKept(t, api.Config{Pages: 2, Page: 65536, Factor: 200})
	for i := range 1500 {
		w.set("k"+name(i/256)+name(i%256), 1)
	}
	w.tells("STAT 0:pages 2", "STAT 0:used 1500", "STAT 0:free 548", "STAT total_pages 2")
}

// all is what a store has.
func all(s *store.Store) ([]api.Item, []int) {
	numbers := []int{int(s.Cas()), int(s.Flush()), s.Classes()}
	l := s.Items()
	for _, x := range l {
		numbers = append(numbers, s.Chunk(x.Key))
	}
	for class := range s.Classes() {
		pages, used, free := s.Counts(class)
		numbers = append(append(numbers, pages, used, free), s.Pages(class)...)
	}
	return l, numbers
}

// A report changes nothing in the store, told twice it is the same, and it is the caller's (R1).
func TestSlabsChangeNothing(t *testing.T) {
	ofEach(t, func(t *testing.T, kind int) {
		w, other := newKept(t, small(4, kind)), newKept(t, small(4, kind))
		r, otherR := rand.New(rand.NewSource(5)), rand.New(rand.NewSource(5))
		for i := range 200 {
			at := int64(now + i)
			a, dropped := w.s.Do(at, random(r, w.s))
			want, wantDropped := other.s.Do(at, random(otherR, other.s))
			// Only one of the stores is asked for reports.
			if a != want || !slices.Equal(dropped, wantDropped) {
				t.Fatalf("R1: a store that was asked for reports answers %s, %q; one that was not %s, %q", show(a), dropped, show(want), wantDropped)
			}
			items, numbers := all(w.s)
			l := stats.Slabs(w.s)
			told := slices.Clone(l)
			second := stats.Slabs(w.s)
			for i := range l {
				l[i] = "x"
			}
			_ = append(l[:0], "y", "z")
			if !slices.Equal(second, told) || !slices.Equal(stats.Slabs(w.s), told) {
				t.Fatalf("R1: Slabs = %q, then %q; want %q", second, stats.Slabs(w.s), told)
			}
			nowItems, nowNumbers := all(w.s)
			if !slices.Equal(items, nowItems) || !slices.Equal(numbers, nowNumbers) {
				t.Fatalf("R1: there were %s, %d; there are %s, %d", show(items), numbers, show(nowItems), nowNumbers)
			}
		}
	})
}

// Reports of two stores, and counts, have nothing to do with each other (R3).
func TestSlabsOfTwo(t *testing.T) {
	a, b := newKept(t, small(2, 0)), newKept(t, small(3, 1))
	counted := newTwin(t)
	counted.mixed()
	a.set("k", 1)
	b.tells("STAT total_pages 0")
	b.set("k", 60)
	b.set("l", 60)
	a.tells("STAT 0:pages 1", "STAT 0:used 1", "STAT 0:free 7", "STAT total_pages 1")
	b.tells("STAT 1:pages 1", "STAT 1:used 2", "STAT 1:free 2", "STAT total_pages 1")
	counted.same()
	counted.reset()
	a.tells("STAT 0:pages 1", "STAT 0:used 1", "STAT 0:free 7", "STAT total_pages 1")
	b.tells("STAT 1:pages 1", "STAT 1:used 2", "STAT 1:free 2", "STAT total_pages 1")
}

// While pages go from class to class, step by step, each report is right (S2).
func TestSlabsOnTheWay(t *testing.T) {
	ofEach(t, func(t *testing.T, kind int) {
		w := newKept(t, small(3, kind))
		m := mover.New(1)
		for i := range 20 {
			w.set(name(i), 1)
		}
		w.tells("STAT 0:pages 3", "STAT 0:used 20", "STAT 0:free 4", "STAT total_pages 3")
		m.Note(2)
		m.Step(w.s, now)
		w.closed[2] = true
		w.tells("STAT 0:pages 3", "STAT 0:used 20", "STAT 0:free 0", "STAT total_pages 3")
		for _, used := range []string{"19", "18", "17", "16"} {
			m.Step(w.s, now)
			w.tells("STAT 0:pages 3", "STAT 0:used "+used, "STAT 0:free 0", "STAT total_pages 3")
		}
		m.Step(w.s, now)
		w.closed[2] = false
		w.tells("STAT 0:pages 2", "STAT 0:used 16", "STAT 0:free 0", "STAT 2:pages 1", "STAT 2:used 0", "STAT 2:free 2", "STAT total_pages 3")
	})
}

// pageCall is any call for a page; it tells whether a page was closed or moved.
func (w *kept) pageCall(r *rand.Rand, at int64) (bool, bool) {
	page := r.Intn(w.config.Pages+2) - 1
	switch r.Intn(6) {
	case 0:
		ok := w.s.Close(page) == api.OK
		if ok {
			w.closed[page] = true
		}
		return ok, false
	case 1:
		if w.s.Open(page) == api.OK {
			w.closed[page] = false
		}
	case 2:
		ok := w.s.Move(page, r.Intn(w.s.Classes()+2)-1) == api.OK
		if ok {
			w.closed[page] = false
		}
		return false, ok
	default:
		w.s.Drain(page, at)
	}
	return false, false
}

// Long rows of any commands and calls for pages: behind each the report is right (S2).
func TestSlabsScripts(t *testing.T) {
	closes, moves := 0, 0
	for seed := range int64(60) {
		r := rand.New(rand.NewSource(seed))
		configs := []api.Config{{Pages: 3, Page: 512, Factor: 200}, {Pages: 6, Page: 512, Factor: 150}, {Pages: 8, Page: 1024, Factor: 125}}
		c := configs[r.Intn(len(configs))]
		c.Policy = int(seed) % 4
		w := newKept(t, c)
		for i := range 250 {
			at := int64(now + i)
			if r.Intn(3) == 0 {
				closed, moved := w.pageCall(r, at)
				if closed {
					closes++
				}
				if moved {
					moves++
				}
			} else {
				w.s.Do(at, random(r, w.s))
			}
			w.same()
		}
	}
	if closes == 0 || moves == 0 {
		t.Errorf("the scripts have closed %d pages, and moved %d", closes, moves)
	}
}
