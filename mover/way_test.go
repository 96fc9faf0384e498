package mover_test

import (
	"slices"
	"strings"
	"testing"

	"ambry/api"
	"ambry/store"
)

const alphabet = "abcdefghijklmnopqrstuvwxyzABCDEFGHIJKLMNOPQRSTUVWXYZ"

// lengths are values' of items of each class of small.
var lengths = []int{1, 50, 100, 300}

// perPage are the chunks of each class of small.
var perPage = []int{8, 4, 2, 1}

// load fills pages of the class with items; it tells the keys.
func (w *twin) load(class, pages int) string {
	w.t.Helper()
	keys := alphabet[:pages*perPage[class]]
	for _, key := range strings.Split(keys, "") {
		w.set(key, lengths[class])
	}
	return keys
}

// Each number of used chunks, of each class: there is a step for each, and one with which the page comes. The other page has no room.
func TestSteps(t *testing.T) {
	ofEach(t, func(t *testing.T, kind int) {
		for from, per := range perPage {
			for to := range perPage {
				for left := 0; left <= per && to != from; left++ {
					w := newTwin(t, small(2, kind), 1)
					keys := w.load(from, 2)
					if left < per {
						w.drop(keys[per+left:])
					}
					w.note(to)
					w.quiet()
					w.moving(1, to)
					if left > 0 {
						w.drops(keys[per : per+left])
					}
					w.moving(1, to)
					w.has(from, 0, 1)
					w.counts(from, 2, per, 0)
					w.quiet()
					w.moving(-1, -1)
					w.has(from, 0)
					w.has(to, 1)
					w.counts(from, 1, per, 0)
					w.counts(to, 1, 0, perPage[to])
					w.get(keys[:per])
				}
			}
		}
	})
}

// Where the donor's other pages have room, as many items get another chunk, and are what they were; the others are told.
func TestRoomElsewhere(t *testing.T) {
	ofEach(t, func(t *testing.T, kind int) {
		for free := range 9 {
			w := newTwin(t, small(2, kind), 1)
			w.fill("abcdefghijklmnop")
			w.get("ikkkao")
			w.note(2)
			w.quiet()
			if free > 0 {
				w.drop("abcdefgh"[:free])
			}
			before := w.s.Items()
			for i := range free {
				key := "ijklmnop"[i : i+1]
				w.at(key, 4096+i)
				w.quiet()
				// Who went last is on top of the row.
				w.at(key, free-1-i)
				w.moving(1, 2)
				w.lacks(0, 0, 0, 0)
			}
			if l := w.s.Items(); !slices.Equal(l, before) {
				t.Errorf("R2: there are %s; there were %s", show(l), show(before))
			}
			if free < 8 {
				w.drops("ijklmnop"[free:])
			}
			w.quiet()
			w.moving(-1, -1)
			w.has(2, 1)
			w.keys("abcdefgh"[free:] + "ijklmnop"[:free])
		}
	})
}

// From the decision on nobody gets a chunk of the page, though it has free ones: it is closed at once.
func TestClosedAtOnce(t *testing.T) {
	ofEach(t, func(t *testing.T, kind int) {
		w := newTwin(t, small(2, kind), 1)
		w.fill("abcdefghi")
		w.counts(0, 2, 9, 7)
		w.note(3)
		w.quiet()
		w.moving(1, 3)
		w.counts(0, 2, 9, 0)
		if e := w.s.Close(1); e != api.ErrPage {
			t.Errorf("R2: a page that is under way is not closed: %d", e)
		}
		w.set("j", 1, "a")
		w.at("j", 0)
		w.drops("i")
		w.quiet()
		w.has(3, 1)
		w.set("x", 300)
		w.at("x", 4096)
		// It is open then.
		if e := w.s.Open(1); e != api.ErrPage {
			t.Errorf("R2: a page that has come is closed: %d", e)
		}
	})
}

// The page that has come is the recipient's as others are: its chunks are in the row, the lowest on top.
func TestComes(t *testing.T) {
	ofEach(t, func(t *testing.T, kind int) {
		w := newTwin(t, small(2, kind), 1)
		w.fill("abcdefghijklmnop")
		w.is(setting("A", 50), api.NoMemory)
		w.note(1)
		w.quiet()
		w.is(setting("A", 50), api.NoMemory)
		w.drops("ijklmnop")
		w.is(setting("A", 50), api.NoMemory)
		w.quiet()
		for i, key := range []string{"A", "B", "C", "D"} {
			w.set(key, 50)
			w.at(key, 4096+i)
		}
		w.set("E", 50, "A")
		w.at("E", 4096)
		w.set("q", 1, "a")
		w.keys("BCDEbcdefghq")
	})
}

// The caps of both classes are those of the pages that they have then: adaptive ones and three remember so many.
func TestCaps(t *testing.T) {
	for _, kind := range []int{2, 3} {
		for _, back := range []int{0, 8, 15, 24, 25, 26, 27, 28, 29, 30, 31} {
			w := newTwin(t, small(2, kind), 1)
			w.quick = true
			for i := range 32 {
				w.do(setting(name(i), 1))
			}
			// The first 16 went; the last eight, those of the page that goes, go behind them.
			w.note(1)
			for range 10 {
				w.step()
			}
			w.has(1, 1)
			// Eight are remembered then, of which the oldest is forgotten for the one that goes for who comes back.
			w.stays(back, 24, back >= 25)
		}
		for back := range 18 {
			w := newTwin(t, small(3, kind), 1)
			w.quick = true
			w.set("x", 300)
			w.set("y", 300)
			w.drop("xy")
			for i := range 8 {
				w.do(setting(name(i), 1))
			}
			w.note(0)
			w.step()
			w.step()
			w.has(0, 1, 2)
			for i := range 26 {
				w.do(setting(name(8+i), 1))
			}
			// Of the 16 chunks' 18 that went, and the one that goes for who comes back, 16 are remembered.
			w.stays(back, 32, back >= 3)
		}
	}
}

// stays holds whether one of the keys that went stays, as one who is known when it comes back, though n others come behind it.
func (w *twin) stays(back, n int, want bool) {
	w.t.Helper()
	w.do(setting(name(back), 1))
	for i := range n {
		w.do(setting(name(100+i), 1))
	}
	if stays := w.s.Chunk(name(back)) >= 0; stays != want {
		w.t.Errorf("R2: %s stays: %v; want %v", name(back), stays, want)
	}
	w.same()
}

// Items are got, stored anew, grow, shrink, and are deleted while their page is under way.
func TestCommandsUnderWay(t *testing.T) {
	ofEach(t, func(t *testing.T, kind int) {
		w := newTwin(t, small(3, kind), 1)
		w.fill("abcdefghijklmnop")
		w.note(3)
		w.quiet()
		w.moving(1, 3)
		w.get("ijklmnop")
		// Anew in the same chunk: it goes as it would have.
		w.set("i", 20)
		w.at("i", 4096)
		w.drops("i")
		// Out of the page, as it grows, and not back, as it shrinks: there is no room, but for others'.
		w.set("j", 50)
		w.at("j", 8192)
		w.set("j", 1, "a")
		w.at("j", 0)
		w.drop("k")
		// The room that a deletion elsewhere makes is for who is drained next.
		w.drop("b")
		w.quiet()
		w.at("l", 1)
		w.drops("m")
		w.drop("n")
		w.drops("o")
		w.drop("p")
		w.moving(1, 3)
		w.quiet()
		w.moving(-1, -1)
		w.has(3, 1)
		w.keys("cdefghjl")
	})
}

// All that the page had is deleted: with the next step it comes.
func TestDeletedUnderWay(t *testing.T) {
	for steps := range 8 {
		w := newTwin(t, small(2, 0), 1)
		w.fill("abcdefghijklmnop")
		w.note(1)
		w.quiet()
		if steps > 0 {
			w.drops("ijklmnop"[:steps])
		}
		w.drop("ijklmnop"[steps:])
		w.moving(1, 1)
		w.has(0, 0, 1)
		w.quiet()
		w.moving(-1, -1)
		w.has(1, 1)
		w.keys("abcdefgh")
	}
}

// A flush at once, or one whose moment comes, ahead of the next command: with the next step the page comes.
func TestFlushedUnderWay(t *testing.T) {
	ofEach(t, func(t *testing.T, kind int) {
		for _, late := range []int64{0, 5} {
			w := newTwin(t, small(2, kind), 3)
			w.fill("abcdefghijklmnop")
			w.note(1)
			w.quiet()
			w.quiet()
			w.quiet()
			w.drops("ij")
			w.is(flushing(late), api.Flushed)
			w.now += late
			w.is(command(api.OpGet, "z"), api.NotFound)
			w.keys("")
			w.moving(1, 1)
			w.counts(0, 2, 0, 8)
			w.fill("qr")
			w.quiet()
			w.moving(-1, -1)
			w.has(1, 1)
			w.keys("qr")
		}
	})
}

// A flush whose moment has come, but no command since: the step heeds it no more than the store's Drain does.
func TestFlushToCome(t *testing.T) {
	w := newTwin(t, small(2, 0), 1)
	w.fill("abcdefghijklmnop")
	w.note(1)
	w.quiet()
	w.is(flushing(5), api.Flushed)
	w.now += 4
	w.drops("i")
	w.now++
	w.drops("jk")
	w.keys("abcdefghlmnop")
	w.set("q", 1)
	w.keys("q")
	w.quiet()
	w.has(1, 1)
}

// Who is gone at the step's moment goes without being told; one moment ahead it is told.
func TestGoneUnderWay(t *testing.T) {
	ofEach(t, func(t *testing.T, kind int) {
		w := newTwin(t, small(2, kind), 1)
		w.fill("abcdefgh")
		for i, key := range strings.Split("ijklmnop", "") {
			w.is(till(setting(key, 1), int64(i%3)*10), api.Stored)
		}
		w.note(1)
		w.quiet()
		w.drops("i")
		w.now += 9
		w.drops("j")
		w.now++
		w.drops("kl")
		w.quiet()
		w.at("m", -1)
		w.now += 9
		w.drops("no")
		w.now++
		w.at("p", 4103)
		w.quiet()
		w.at("p", -1)
		w.moving(1, 1)
		w.quiet()
		w.moving(-1, -1)
		w.keys("abcdefgh")
	})
}

// With room elsewhere also who is gone gets another chunk.
func TestGoneWithRoom(t *testing.T) {
	w := newTwin(t, small(2, 0), 1)
	w.fill("abcdefgh")
	w.is(till(setting("i", 1), 5), api.Stored)
	w.drop("b")
	w.at("i", 4096)
	w.note(1)
	w.quiet()
	w.now += 5
	w.quiet()
	w.at("i", 1)
	w.quiet()
	w.has(1, 1)
	w.is(command(api.OpGet, "i"), api.NotFound)
	w.at("i", -1)
}

// At a moment that may not be a page with items stays under way as it is; it comes on at the next one that may be.
func TestNoMomentUnderWay(t *testing.T) {
	ofEach(t, func(t *testing.T, kind int) {
		w := newTwin(t, small(2, kind), 1)
		w.is(till(setting("a", 1), 5), api.Stored)
		w.fill("bcdefgh")
		w.is(till(setting("i", 1), 5), api.Stored)
		w.fill("jk")
		w.note(3)
		w.quiet()
		w.note(2, 2)
		stays := func(left string) {
			t.Helper()
			for _, at := range noMoments {
				if key, ok := w.stepAt(at); key != "" || ok {
					t.Errorf("R2: Step at %d = %q, %v; want nothing, false", at, key, ok)
				}
			}
			w.moving(1, 3)
			w.lacks(0, 0, 2, 0)
			w.keys("abcdefgh" + left)
		}
		stays("ijk")
		w.drops("i")
		stays("jk")
		w.now = far
		w.drops("j")
		stays("k")
		if key, ok := w.stepAt(1); key != "k" || !ok {
			t.Errorf("R2: Step at 1 = %q, %v; want k, true", key, ok)
		}
		w.moving(1, 3)
		w.quiet()
		w.has(3, 1)
	})
}

// Turns, decisions, and the coming of an empty page ask for no moment.
func TestNoMomentElse(t *testing.T) {
	for _, at := range noMoments {
		w := newTwin(t, small(3, 0), 3)
		w.deal(0, 0, 0)
		w.note(1)
		step := func() {
			t.Helper()
			if key, ok := w.stepAt(at); key != "" || ok {
				t.Errorf("R2: Step at %d = %q, %v; want nothing, false", at, key, ok)
			}
		}
		step()
		step()
		w.moving(-1, -1)
		w.lacks(0, 1, 0, 0)
		step()
		w.moving(2, 1)
		w.lacks(0, 0, 0, 0)
		step()
		w.moving(-1, -1)
		w.has(1, 2)
	}
}

// The first and the last moment may be.
func TestMomentsAtTheEdge(t *testing.T) {
	for _, at := range []int64{1, 2, far - 1, far} {
		w := newTwin(t, small(2, 0), 1)
		w.now = at
		w.fill("abcdefghij")
		w.note(1)
		w.quiet()
		w.drops("ij")
		w.quiet()
		w.has(1, 1)
	}
}

// Whatever is stored meanwhile, the page comes with as many steps as it had items, and one.
func TestComesWhateverIsAsked(t *testing.T) {
	ofEach(t, func(t *testing.T, kind int) {
		w := newTwin(t, small(2, kind), 1)
		w.quick = true
		for i := range 16 {
			w.do(setting(name(i), 1))
		}
		w.note(1)
		w.quiet()
		steps := 0
		for page, _ := w.m.Moving(); page >= 0; page, _ = w.m.Moving() {
			for i := range 40 {
				w.do(setting(name(steps*40+i), i%24))
			}
			w.step()
			w.same()
			steps++
		}
		if steps > 9 {
			t.Errorf("R2: there were %d steps", steps)
		}
		w.has(1, 1)
	})
}

// Steps that decide nothing leave the store as it was, its rows' order and who is to go next too.
func TestStepsThatDecideNothing(t *testing.T) {
	ofEach(t, func(t *testing.T, kind int) {
		w := newTwin(t, small(2, kind), 1000)
		clean, _ := store.New(small(2, kind))
		for i := range 300 {
			c := till(setting(name(i*7%40), i*5%60), int64(i%4*3))
			w.quick = i%10 != 0
			w.quiet()
			w.note(i % 70)
			a, dropped := w.do(c)
			want, wantDropped := clean.Do(w.now, c)
			if a != want || !slices.Equal(dropped, wantDropped) || w.s.Chunk(c.Key) != clean.Chunk(c.Key) {
				t.Fatalf("R2: %s is answered %s, %q; without the mover %s, %q", show(c), show(a), dropped, show(want), wantDropped)
			}
			w.now += int64(i % 2)
		}
		if !slices.Equal(w.s.Items(), clean.Items()) {
			t.Errorf("R2: there are %s; without the mover %s", show(w.s.Items()), show(clean.Items()))
		}
	})
}
