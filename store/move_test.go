package store_test

import (
	"math"
	"strings"
	"testing"

	"ambry/api"
	"ambry/chain"
)

// A closed page without room in its class: one by one its items go, and are told (Q4).
func TestDrainWithoutRoom(t *testing.T) {
	ofEach(t, func(t *testing.T, kind int) {
		w := newTwin(t, small(2, kind))
		w.fill("abcdefgh")
		w.close(0)
		w.counts(0, 1, 8, 0)
		for i, key := range strings.Split("abcdefgh", "") {
			w.drops(0, key)
			w.at(key, -1)
			w.counts(0, 1, 7-i, 0)
		}
		// It is empty: nothing is told any more.
		w.drainsQuietly(0)
		w.keys("")
		if w.s.Cas() != 8 {
			t.Errorf("Q4: Cas() = %d; want 8", w.s.Cas())
		}
		// The page that nobody has is still there: draining asks for none.
		w.counts(0, 1, 0, 0)
		w.set("i", 1)
		w.at("i", 4096)
	})
}

// With room in its class each item gets another chunk, that on top of the row, and is what it was.
func TestDrainWithRoom(t *testing.T) {
	ofEach(t, func(t *testing.T, kind int) {
		w := newTwin(t, small(2, kind))
		w.fill("abcdefgh")
		w.is(with(till(storing(api.Set, "i", "77"), 900), func(c *api.Command) { c.Flags = 4 }), api.Stored)
		w.is(with(till(storing(api.Set, "a", "78"), 800), func(c *api.Command) { c.Flags = 5 }), api.Stored)
		w.is(with(command(api.OpDelete, "b"), func(c *api.Command) { c.Invalidate = true }), api.Deleted)
		w.get("bc")
		before := w.s.Items()
		w.close(0)
		w.counts(0, 2, 9, 7)
		for i, key := range strings.Split("abcdefg", "") {
			w.at(key, i)
			w.drainsQuietly(0)
			w.at(key, 4097+i)
			w.counts(0, 2, 9, 6-i)
		}
		for i, x := range w.s.Items() {
			if x != before[i] {
				t.Errorf("Q4: it has %s; want %s", show(x), show(before[i]))
			}
		}
		// There is no chunk left for the last one.
		w.drops(0, "h")
		w.drainsQuietly(0)
		w.counts(0, 2, 8, 0)
		w.keys("abcdefgi")
	})
}

// Of the chunks that are used the first goes, wherever it is.
func TestDrainFirst(t *testing.T) {
	w := newTwin(t, small(1, 0))
	w.fill("abcdefgh")
	for _, key := range strings.Split("aceg", "") {
		w.is(command(api.OpDelete, key), api.Deleted)
	}
	w.close(0)
	w.drops(0, "b")
	w.is(command(api.OpDelete, "d"), api.Deleted)
	w.drops(0, "f")
	w.drops(0, "h")
	w.drainsQuietly(0)
}

// Who gets another chunk comes anew to the policy, in front of all; who stays does not.
func TestDrainComesAnew(t *testing.T) {
	w := newTwin(t, small(2, 0))
	w.fill("abcdefghij")
	w.close(0)
	w.drainsQuietly(0)
	w.drainsQuietly(0)
	w.open(0)
	w.counts(0, 2, 10, 6)
	w.fill("klmnop")
	for i, key := range strings.Split("cdefghijabklmnop", "") {
		w.set(string([]byte{byte('A' + i)}), 1, key)
	}
}

// An active one that gets another chunk is as one who came just now.
func TestDrainForgetsTouches(t *testing.T) {
	w := newTwin(t, small(2, 3))
	w.fill("abcdefghi")
	w.get("aabb")
	w.close(0)
	w.drainsQuietly(0)
	w.open(0)
	w.fill("jklmnop")
	for i, key := range strings.Split("cdefghia", "") {
		w.set(string([]byte{byte('A' + i)}), 1, key)
	}
}

// Who got another chunk has its key's number still: it is known when it comes back.
func TestDrainKeepsTheNumber(t *testing.T) {
	w := newTwin(t, small(2, 3))
	w.fill("abcdefghi")
	w.close(0)
	w.drainsQuietly(0)
	w.open(0)
	w.fill("jklmnop")
	for i, key := range strings.Split("bcdefghia", "") {
		w.set(string([]byte{byte('A' + i)}), 1, key)
	}
	w.set("a", 1, "j")
	for i := range 20 {
		w.do(setting(name(i), 1))
	}
	w.get("a")
	w.is(command(api.OpGet, "b"), api.NotFound)
}

// Who gets another chunk stays where it is in the table: a flush takes it out when it would have.
func TestDrainKeepsTheOrder(t *testing.T) {
	for carried := range 7 {
		w := newTwin(t, small(2, 0))
		k := keysOf{chain.New()}
		for _, key := range strings.Split("abcdefghi", "") {
			w.set(key, 1)
			k.set(key)
		}
		w.close(0)
		for range carried {
			w.drainsQuietly(0)
		}
		w.open(0)
		w.flushOrder(k)
	}
}

// Draining without room is as a victim's going: the policies that remember whom they lost know it.
func TestDrainIsRemembered(t *testing.T) {
	w := newTwin(t, small(2, 3))
	w.fill("abcdefgh")
	w.close(0)
	w.drops(0, "a")
	w.drops(0, "b")
	w.open(0)
	// a comes back to main, where nobody goes as long as small has more than one.
	w.fill("axABCDEFGH")
	w.counts(0, 2, 16, 0)
	for i, key := range strings.Split("cdefghxABC", "") {
		w.set(string([]byte{byte('I' + i)}), 1, key)
	}
	w.get("a")
}

// Gone at now, one is not told; at other moments of the same page it is.
func TestDrainOfGone(t *testing.T) {
	ofEach(t, func(t *testing.T, kind int) {
		w := newTwin(t, small(1, kind))
		for i, key := range strings.Split("abcdefgh", "") {
			w.is(till(setting(key, 1), int64(i%3)*10), api.Stored)
		}
		w.close(0)
		w.drops(0, "a")
		w.now += 9
		w.drops(0, "b")
		w.now++
		w.drops(0, "c")
		w.drops(0, "d")
		w.drainsQuietly(0)
		w.at("e", -1)
		w.now += 9
		w.drops(0, "f")
		w.drops(0, "g")
		w.now++
		w.at("h", 7)
		w.now += far - w.now
		w.drainsQuietly(0)
		w.keys("")
	})
}

// With room also one that is gone gets another chunk: it is not told, and not taken out.
func TestDrainOfGoneWithRoom(t *testing.T) {
	w := newTwin(t, small(2, 0))
	w.is(till(setting("a", 1), 5), api.Stored)
	w.fill("bcdefghi")
	w.now += 5
	w.close(0)
	w.drainsQuietly(0)
	w.at("a", 4097)
	w.is(command(api.OpGet, "a"), api.NotFound)
	w.at("a", -1)
}

// A flush whose moment has come does not take part: till the next command all is there.
func TestDrainBehindFlush(t *testing.T) {
	w := newTwin(t, small(1, 0))
	w.fill("ab")
	w.is(flushing(5), api.Flushed)
	w.close(0)
	w.now += 5
	w.drops(0, "a")
	if w.s.Flush() != now+5 {
		t.Errorf("Q4: Flush() = %d; want %d", w.s.Flush(), now+5)
	}
	w.is(command(api.OpGet, "b"), api.NotFound)
	w.drainsQuietly(0)
}

// A page that is open, free, or none, and moments that may not be: nothing is told, and nothing done.
func TestDrainOfNone(t *testing.T) {
	ofEach(t, func(t *testing.T, kind int) {
		w := newTwin(t, small(4, kind))
		w.fill("abcdefghij")
		w.set("x", 50)
		for _, page := range append(noPages, 0, 1, 2, 3, 4, 5, 1023) {
			w.drainsQuietly(page)
		}
		w.close(0)
		w.close(1)
		moments := []int64{0, -1, -2, -far, far + 1, far + 2, math.MaxInt64, math.MinInt64, math.MinInt64 + 1}
		for _, at := range moments {
			if key, ok := w.drainAt(0, at); key != "" || ok {
				t.Errorf("Q4: Drain(0, %d) = %q, %v", at, key, ok)
			}
		}
		w.keys("abcdefghijx")
		w.open(1)
		for _, at := range moments {
			if key, ok := w.drainAt(0, at); key != "" || ok {
				t.Errorf("Q4: Drain(0, %d) = %q, %v", at, key, ok)
			}
		}
		w.at("a", 0)
		w.drainAt(0, 1)
		w.at("a", 4098)
		w.drainAt(0, far)
		w.at("b", 4099)
		w.open(0)
		w.drainsQuietly(0)
		w.at("c", 2)
	})
}

// Close and Open: what is granted and open, what is closed; the free chunks leave the row, and are laid again.
func TestCloseOpen(t *testing.T) {
	ofEach(t, func(t *testing.T, kind int) {
		w := newTwin(t, small(3, kind))
		is := func(call func(int) api.Errno, page int, want api.Errno) {
			t.Helper()
			if e := call(page); e != want {
				t.Errorf("Q4: of page %d it is %d; want %d", page, e, want)
			}
		}
		w.fill("abcdefghijk")
		for _, page := range append(noPages, 2, 3, 1023) {
			is(w.close, page, api.ErrPage)
			is(w.open, page, api.ErrPage)
		}
		is(w.open, 0, api.ErrPage)
		is(w.close, 1, api.OK)
		is(w.close, 1, api.ErrPage)
		w.counts(0, 2, 11, 0)
		w.set("l", 1)
		w.at("l", 8192)
		w.is(command(api.OpDelete, "j"), api.Deleted)
		w.counts(0, 3, 11, 7)
		is(w.open, 1, api.OK)
		is(w.open, 1, api.ErrPage)
		// Its chunks are on top of the row now, the lowest one on top of all.
		w.counts(0, 3, 11, 13)
		for i, key := range strings.Split("mnopqr", "") {
			w.set(key, 1)
			w.at(key, []int{4097, 4099, 4100, 4101, 4102, 4103}[i])
		}
		w.set("s", 1)
		w.at("s", 8193)
		is(w.close, 0, api.OK)
		is(w.close, 1, api.OK)
		is(w.close, 2, api.OK)
		is(w.open, 0, api.OK)
		w.keys("abcdefghiklmnopqrs")
	})
}

// What may not be moved: a page that is open, free or none; to a class that there is not; with a chunk that is used. The first that applies.
func TestMoveWrong(t *testing.T) {
	ofEach(t, func(t *testing.T, kind int) {
		w := newTwin(t, small(3, kind))
		w.fill("abcdefghij")
		is := func(page, class int, want api.Errno) {
			t.Helper()
			if e := w.move(page, class); e != want {
				t.Errorf("Q4: Move(%d, %d) = %d; want %d", page, class, e, want)
			}
		}
		for _, class := range append(noClasses, 0, 1, 2, 3, 4, 62) {
			for _, page := range append(noPages, 0, 1, 2, 3) {
				is(page, class, api.ErrPage)
			}
		}
		w.close(1)
		for _, class := range append(noClasses, 4, 5, 62) {
			is(1, class, api.ErrArg)
		}
		for class := range 4 {
			is(1, class, api.ErrBusy)
		}
		w.drop("i")
		is(1, 2, api.ErrBusy)
		w.drop("j")
		for _, class := range append(noClasses, 4, 5, 62) {
			is(1, class, api.ErrArg)
		}
		w.has(0, 0, 1)
		is(1, 2, api.OK)
		is(1, 2, api.ErrPage)
		w.has(0, 0)
		w.has(2, 1)
		w.counts(2, 1, 0, 2)
	})
}

// drop deletes the key's item.
func (w *twin) drop(key string) {
	w.t.Helper()
	w.is(command(api.OpDelete, key), api.Deleted)
}

// A page that is moved: its class has its chunks then, and who needs one of the class it had has none.
func TestMove(t *testing.T) {
	ofEach(t, func(t *testing.T, kind int) {
		w := newTwin(t, small(2, kind))
		w.fill("abcdefghij")
		w.is(setting("x", 300), api.NoMemory)
		w.close(1)
		w.drops(1, "i")
		w.drops(1, "j")
		w.move(1, 3)
		w.counts(0, 1, 8, 0)
		w.counts(3, 1, 0, 1)
		w.set("x", 300)
		w.at("x", 4096)
		w.set("y", 300, "x")
		w.set("k", 1, "a")
		// Back again, and to the class that it is in.
		w.close(1)
		w.drops(1, "y")
		w.move(1, 3)
		w.counts(3, 1, 0, 1)
		w.drainsQuietly(1)
		w.close(1)
		w.move(1, 0)
		w.counts(3, 0, 0, 0)
		w.counts(0, 2, 8, 8)
		w.is(setting("x", 300), api.NoMemory)
		w.set("l", 1)
		w.at("l", 4096)
		w.keys("bcdefghkl")
	})
}

// Moved, the page is open: it is closed anew ahead of the next draining.
func TestMoveOpens(t *testing.T) {
	w := newTwin(t, small(1, 0))
	w.set("a", 1)
	w.drop("a")
	w.close(0)
	w.move(0, 1)
	w.set("x", 50)
	w.drainsQuietly(0)
	w.at("x", 0)
	if e := w.open(0); e != api.ErrPage {
		t.Errorf("Q4: Open of a page that was moved = %d", e)
	}
	if e := w.close(0); e != api.OK {
		t.Errorf("Q4: Close of a page that was moved = %d", e)
	}
	w.drops(0, "x")
}

// The class that loses a page remembers fewer of those that went: the caps of both are set anew.
func TestMoveSetsCaps(t *testing.T) {
	for _, kind := range []int{2, 3} {
		for back := range 20 {
			w := newTwin(t, small(2, kind))
			w.quick = true
			for i := range 32 {
				w.do(setting(name(i), 1))
			}
			// The first 16 went; the next eight, of the page 0, go by draining.
			w.close(0)
			for range 8 {
				w.drain(0)
			}
			w.move(0, 1)
			// Now eight are remembered, of which the oldest is forgotten for the one that goes for who comes back.
			w.knows(back, 24, back >= 17)
		}
	}
}

// The class that gets a page remembers more.
func TestMoveSetsCapsOfTheOther(t *testing.T) {
	for _, kind := range []int{2, 3} {
		for back := range 18 {
			w := newTwin(t, small(2, kind))
			w.quick = true
			w.set("x", 300)
			w.drop("x")
			for i := range 8 {
				w.do(setting(name(i), 1))
			}
			w.close(0)
			w.move(0, 0)
			for i := range 26 {
				w.do(setting(name(8+i), 1))
			}
			// Of the 16 chunks' 18 that went, and the one that goes for who comes back, the last 16 are remembered.
			w.knows(back, 32, back >= 3)
		}
	}
}

// It does from then on, not only from the next one who comes: of those drained at once twice as many are remembered.
func TestMoveSetsCapsAtOnce(t *testing.T) {
	for _, kind := range []int{2, 3} {
		for back := range 16 {
			w := newTwin(t, small(2, kind))
			w.quick = true
			w.set("x", 300)
			w.drop("x")
			for i := range 16 {
				w.do(setting(name(i), 1))
			}
			w.close(0)
			w.move(0, 0)
			w.close(0)
			w.close(1)
			for range 8 {
				w.drain(1)
			}
			w.open(0)
			w.open(1)
			w.counts(0, 2, 0, 16)
			// All 16 are remembered, so whichever of them comes back stays.
			w.knows(back, 32, true)
		}
	}
}

// A class that loses its only page remembers nobody, also when it gets it back.
func TestMoveForgets(t *testing.T) {
	for _, kind := range []int{2, 3} {
		for _, to := range []int{0, 1} {
			for back := range 8 {
				w := newTwin(t, small(1, kind))
				w.quick = true
				for i := range 8 {
					w.do(setting(name(i), 1))
				}
				w.close(0)
				for range 8 {
					w.drain(0)
				}
				w.move(0, to)
				w.close(0)
				w.move(0, 0)
				w.knows(back, 16, to == 0)
			}
		}
	}
}

// Wherever the page is under way, its items are got, grow, shrink and go as others do.
func TestCommandsOfAClosedPage(t *testing.T) {
	ofEach(t, func(t *testing.T, kind int) {
		w := newTwin(t, small(3, kind))
		w.fill("abcdefghi")
		w.close(0)
		w.get("abcdefghi")
		w.set("a", 20)
		w.at("a", 0)
		w.set("b", 50)
		w.at("b", 8192)
		w.counts(0, 2, 8, 7)
		w.set("b", 1)
		w.at("b", 4097)
		w.drop("c")
		w.drainsQuietly(0)
		w.at("a", 4098)
		w.at("d", 3)
		w.is(till(command(api.OpTouch, "d"), -1), api.Touched)
		w.is(command(api.OpGet, "d"), api.NotFound)
		w.drainsQuietly(0)
		w.at("e", 4099)
		w.is(flushing(0), api.Flushed)
		w.drainsQuietly(0)
		w.move(0, 3)
		w.set("z", 300)
		w.at("z", 0)
	})
}
