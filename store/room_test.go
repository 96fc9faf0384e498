package store_test

import (
	"strings"
	"testing"

	"ambry/api"
)

// Who goes is who the policy says: of each of the four kinds by hand.
func TestVictimsPlain(t *testing.T) {
	w := newTwin(t, small(1, 0))
	w.fill("abcdefgh")
	w.get("ac")
	w.set("i", 1, "b")
	w.at("i", 1)
	w.set("j", 1, "d")
	w.at("j", 3)
	w.get("e")
	for i, key := range strings.Split("fghacije", "") {
		w.set(string([]byte{byte('k' + i)}), 1, key)
	}
}

func TestVictimsSegmented(t *testing.T) {
	w := newTwin(t, small(1, 1))
	w.fill("abcdefgh")
	w.get("a")
	// Five steps: a, being active, goes to warm; b, c, d and e go to cold.
	w.set("i", 1, "b")
	// f, g and h go to cold, c, being active, to warm.
	w.get("c")
	w.set("j", 1, "d")
	w.set("k", 1, "e")
	w.set("l", 1, "f")
	w.keys("acghijkl")
}

func TestVictimsAdaptive(t *testing.T) {
	w := newTwin(t, small(1, 2))
	w.fill("abcdefgh")
	w.get("ab")
	w.set("i", 1, "c")
	w.set("j", 1, "d")
	// c and d come back: once is to have two, and they stand in again.
	w.set("c", 1, "e")
	w.set("d", 1, "f")
	w.set("k", 1, "g")
	w.set("l", 1, "h")
	// Once has i, j, k, l still, more than two.
	w.set("m", 1, "i")
	w.keys("abcdjklm")
	// All of once but two go to again, where a is the oldest.
	w.get("jk")
	w.set("n", 1, "a")
	w.set("o", 1, "l")
	w.set("p", 1, "m")
	w.keys("bcdjknop")
}

// Who is to come matters to who goes: one who is known from the class's second ghost takes another's place than one who is not.
func TestVictimHearsOfWhoComes(t *testing.T) {
	for _, p := range []struct{ comes, goes string }{{"l", "c"}, {"m", "c"}, {"a", "k"}, {"b", "k"}, {"j", "c"}} {
		w := newTwin(t, small(1, 2))
		w.fill("abcdefgh")
		w.get("abcdefgh")
		w.set("i", 1, "a")
		w.set("j", 1, "i")
		w.set("i", 1, "j")
		w.set("k", 1, "b")
		// Once is to have one, and has k; a and b went from again.
		w.set(p.comes, 1, p.goes)
	}
}

func TestVictimsThree(t *testing.T) {
	w := newTwin(t, small(1, 3))
	w.fill("abcdefgh")
	w.get("aac")
	// a was asked for twice and goes to main; c only once.
	w.set("i", 1, "b")
	w.set("j", 1, "c")
	// b and c come back, and stand in main at once.
	w.set("b", 1, "d")
	w.set("c", 1, "e")
	w.set("k", 1, "f")
	w.set("l", 1, "g")
	w.set("m", 1, "h")
	w.keys("abcijklm")
	for i, key := range strings.Split("ijkl", "") {
		w.set(string([]byte{byte('n' + i)}), 1, key)
	}
	w.keys("abcmnopq")
}

// Of adaptive ones and three the cap is what the class's pages hold; a class that gets a page keeps more numbers. Those of more than cap ago are forgotten.
func TestCapOfPages(t *testing.T) {
	for _, kind := range []int{2, 3} {
		for _, pages := range []int{1, 2, 3} {
			for back := range 8*pages + 2 {
				w := newTwin(t, small(pages, kind))
				w.quick = true
				cap := 8 * pages
				for i := range 2*cap + 2 {
					w.do(setting(name(i), 1))
				}
				// Cap and two went, one more goes for who comes back: of all these the last cap are known, and come back to where nobody goes that soon.
				w.knows(back, 2*cap, back >= 3)
			}
		}
	}
}

// knows holds whether one of the keys that went stays, as one who is known when it comes back, though n others come behind it.
func (w *twin) knows(back, n int, want bool) {
	w.t.Helper()
	w.do(setting(name(back), 1))
	for i := range n {
		w.do(setting(name(100+i), 1))
	}
	if stays := w.s.Chunk(name(back)) >= 0; stays != want {
		w.t.Errorf("Q2: of %d pages: %d, which went as number %d, stays: %v; want %v", w.pages, back, back+1, stays, want)
	}
	w.same()
}

// name is a short key of the number.
func name(i int) string { return "k" + string([]byte{byte('A' + i/16), byte('A' + i%16)}) }

// The victim is asked for in the class that holds what is wanted, in no other one.
func TestVictimsOfTheClass(t *testing.T) {
	ofEach(t, func(t *testing.T, kind int) {
		w := newTwin(t, small(3, kind))
		w.fill("abcdefgh")
		for _, key := range []string{"A", "B", "C", "D"} {
			w.set(key, 50)
		}
		w.set("x", 100)
		w.set("y", 100)
		w.set("E", 50, "A")
		w.set("i", 1, "a")
		w.set("z", 100, "x")
		w.set("F", 50, "B")
		w.keys("CDEFbcdefghiyz")
	})
}

// No page is left, and no chunk of the class is used: nobody goes, and all stays as it was, Cas too.
func TestNoMemory(t *testing.T) {
	ofEach(t, func(t *testing.T, kind int) {
		w := newTwin(t, small(1, kind))
		w.fill("abcdefgh")
		before := w.s.Items()
		stays := func(c api.Command) {
			t.Helper()
			if a := w.is(c, api.NoMemory); a != (api.Answer{Status: api.NoMemory}) {
				t.Errorf("Q2: %s is answered %s", show(c), show(a))
			}
			for i, x := range w.s.Items() {
				if x != before[i] {
					t.Errorf("Q2: behind %s it has %s; want %s", show(c), show(x), show(before[i]))
				}
			}
			if w.s.Cas() != 8 {
				t.Errorf("Q2: behind %s Cas() = %d; want 8", show(c), w.s.Cas())
			}
		}
		for _, n := range []int{24, 87, 88, 215, 216, 470} {
			stays(setting("z", n))
			stays(storing(api.Add, "z", strings.Repeat("v", n)))
			stays(setting("a", n))
			stays(storing(api.Replace, "b", strings.Repeat("v", n)))
			stays(storing(api.Append, "c", strings.Repeat("v", n)))
			stays(storing(api.Prepend, "d", strings.Repeat("v", n)))
		}
		long := strings.Repeat("k", 25)
		stays(with(command(api.OpGet, long), func(c *api.Command) { c.Vivify = true }))
		stays(with(command(api.OpMath, long), func(c *api.Command) { c.Vivify = true }))
		w.counts(0, 1, 8, 0)
		// What was not stored was not asked for, either.
		if kind == 0 {
			w.set("i", 1, "a")
		}
	})
}

// An item that would grow, and has no room, is what it was, and its place in the policy too.
func TestNoMemoryKeepsTheItem(t *testing.T) {
	w := newTwin(t, small(1, 0))
	w.is(with(till(storing(api.Set, "a", "5"), 50), func(c *api.Command) { c.Flags = 3 }), api.Stored)
	w.fill("bcdefgh")
	w.is(setting("a", 30), api.NoMemory)
	w.at("a", 0)
	want := api.Item{Key: "a", Flags: 3, Value: "5", Exp: now + 50, Cas: 1}
	if a := w.is(command(api.OpLook, "a"), api.Hit); a.Item != want {
		t.Errorf("Q2: it is %s; want %s", show(a.Item), show(want))
	}
	w.set("i", 1, "a")
}

// The class has chunks enough, but they are in a page that is closed: who goes is dropped in vain.
func TestNoMemoryOfClosed(t *testing.T) {
	ofEach(t, func(t *testing.T, kind int) {
		w := newTwin(t, small(1, kind))
		w.fill("abcdefgh")
		w.close(0)
		w.is(setting("i", 1), api.NoMemory, "a")
		w.keys("bcdefgh")
		w.is(setting("j", 1), api.NoMemory, "b")
		w.counts(0, 1, 6, 0)
		if w.s.Cas() != 8 {
			t.Errorf("Q2: Cas() = %d; want 8", w.s.Cas())
		}
		// Its items may be asked for and stored anew all the same.
		w.set("c", 20)
		w.at("c", 2)
		w.open(0)
		w.counts(0, 1, 6, 2)
		w.set("i", 1)
		w.at("i", 0)
	})
}

// A victim that is gone at now goes, but is not told as dropped.
func TestVictimThatIsGone(t *testing.T) {
	for _, p := range []struct {
		at      int64
		dropped []string
	}{{now, []string{"a"}}, {now + 9, []string{"a"}}, {now + 10, nil}, {now + 11, nil}, {far, nil}} {
		ofEach(t, func(t *testing.T, kind int) {
			w := newTwin(t, small(1, kind))
			w.is(till(setting("a", 1), 10), api.Stored)
			w.fill("bcdefgh")
			w.now = p.at
			w.set("i", 1, p.dropped...)
			w.keys("bcdefghi")
			w.at("i", 0)
			w.set("j", 1, "b")
		})
	}
}

// The same, where going was in vain.
func TestVictimThatIsGoneInVain(t *testing.T) {
	w := newTwin(t, small(1, 0))
	w.is(till(setting("a", 1), 10), api.Stored)
	w.fill("bc")
	w.close(0)
	w.now += 10
	w.is(setting("d", 1), api.NoMemory)
	w.keys("bc")
	w.is(setting("d", 1), api.NoMemory, "b")
}

// An item that is gone is asked for, or stored anew: it is taken out first, and its chunk is the next one (step 4).
func TestGone(t *testing.T) {
	w := newTwin(t, small(2, 0))
	gone := func(chunk int) {
		t.Helper()
		w.is(till(setting("k", 1), 10), api.Stored)
		w.at("k", chunk)
		w.now += 9
		w.is(command(api.OpLook, "k"), api.Hit)
		w.now++
	}
	w.set("a", 1)
	for i, p := range []struct {
		c      api.Command
		status int
		stays  bool
	}{
		{command(api.OpGet, "k"), api.NotFound, false}, {command(api.OpLook, "k"), api.NotFound, false},
		{command(api.OpTouch, "k"), api.NotFound, false}, {command(api.OpDelete, "k"), api.NotFound, false},
		{command(api.OpMath, "k"), api.NotFound, false}, {storing(api.Replace, "k", "v"), api.NotStored, false},
		{storing(api.Append, "k", "v"), api.NotStored, false}, {with(setting("k", 1), func(c *api.Command) { c.HasCas = true }), api.NotFound, false},
		{setting("k", 472), api.TooLarge, false}, {storing(api.Add, "k", "v"), api.Stored, true},
		{setting("k", 3), api.Stored, true}, {with(command(api.OpGet, "k"), func(c *api.Command) { c.Vivify = true }), api.Hit, true},
		{with(command(api.OpMath, "k"), func(c *api.Command) { c.Vivify = true }), api.Counted, true},
	} {
		gone(1)
		// It is still there, till it is asked for.
		w.keys("ak")
		w.is(command(api.OpGet, "b"), api.NotFound)
		w.is(command(api.OpGet, "a"), api.Hit)
		w.keys("ak")
		w.counts(0, 1, 2, 6)
		w.is(p.c, p.status)
		if p.stays {
			w.at("k", 1)
			w.is(command(api.OpDelete, "k"), api.Deleted)
		}
		w.keys("a")
		w.counts(0, 1, 1, 7)
		if w.s.Cas() == 0 {
			t.Errorf("Q2: %d: no token", i)
		}
	}
}

// One that is gone and stored anew comes anew to the policy; one that is not gone was asked for.
func TestGoneComesAnew(t *testing.T) {
	w := newTwin(t, small(1, 3))
	w.is(till(setting("a", 1), 10), api.Stored)
	w.fill("bcdefgh")
	w.get("aa")
	w.now += 10
	w.set("a", 1)
	w.set("i", 1, "b")
	w.set("j", 1, "c")
	for i, key := range strings.Split("defgh", "") {
		w.set(string([]byte{byte('k' + i)}), 1, key)
	}
	w.set("p", 1, "a")
}

// One that is gone, would not fit anew, and goes nonetheless: what it was is no more.
func TestGoneWithoutRoom(t *testing.T) {
	ofEach(t, func(t *testing.T, kind int) {
		w := newTwin(t, small(1, kind))
		w.is(till(setting("a", 1), 10), api.Stored)
		w.fill("bcdefgh")
		w.now += 10
		w.is(setting("a", 30), api.NoMemory)
		w.keys("bcdefgh")
		w.counts(0, 1, 7, 1)
	})
}

// Made to be gone at once, an item is kept till it is asked for.
func TestGoneAtOnce(t *testing.T) {
	w := newTwin(t, small(1, 0))
	w.is(till(setting("a", 1), -1), api.Stored)
	w.keys("a")
	w.is(command(api.OpGet, "a"), api.NotFound)
	w.keys("")
	w.set("a", 1)
	w.is(till(command(api.OpTouch, "a"), -5), api.Touched)
	w.keys("a")
	w.is(storing(api.Add, "a", "x"), api.Stored)
	w.is(till(command(api.OpGet, "a"), -5), api.Hit)
	w.keys("a")
	w.is(command(api.OpDelete, "a"), api.NotFound)
	w.keys("")
}

// Whose time is over only by a later clock is there at an earlier one, if nobody asked between.
func TestTimeGoesBack(t *testing.T) {
	w := newTwin(t, small(1, 0))
	w.back = true
	w.is(till(setting("a", 1), 10), api.Stored)
	w.now += 20
	w.is(command(api.OpGet, "b"), api.NotFound)
	w.now -= 15
	w.is(command(api.OpGet, "a"), api.Hit)
	w.now += 15
	w.is(command(api.OpGet, "a"), api.NotFound)
	w.now -= 15
	w.is(command(api.OpGet, "a"), api.NotFound)
}

// A key that is stored in another class goes from the one where it was; who goes there is never itself, though it was to go next in its own.
func TestOwnKey(t *testing.T) {
	ofEach(t, func(t *testing.T, kind int) {
		w := newTwin(t, small(2, kind))
		w.fill("abcdefgh")
		for _, key := range []string{"A", "B", "C", "D"} {
			w.set(key, 50)
		}
		w.set("a", 50, "A")
		w.at("a", 4096)
		w.counts(0, 1, 7, 1)
		w.set("B", 1)
		w.at("B", 0)
		w.counts(1, 1, 3, 1)
		w.set("b", 50)
		w.at("b", 4097)
		w.keys("BCDabcdefgh")
		w.set("B", 50, "C")
		w.set("C", 1)
		w.set("D", 1)
		w.set("a", 1, "c")
		w.keys("BCDabdefgh")
	})
}

// One page alone of one chunk: each who comes drops the one ahead, but the key itself is stored in its own chunk.
func TestOneChunk(t *testing.T) {
	ofEach(t, func(t *testing.T, kind int) {
		w := newTwin(t, small(1, kind))
		w.set("a", 300)
		w.set("a", 471)
		w.set("b", 400, "a")
		w.set("b", 216)
		w.is(storing(api.Append, "b", "v"), api.Stored)
		w.set("a", 300, "b")
		w.is(setting("a", 100), api.NoMemory)
		w.is(setting("c", 1), api.NoMemory)
		w.is(command(api.OpGet, "a"), api.Hit)
		w.is(command(api.OpDelete, "a"), api.Deleted)
		w.set("c", 300)
		w.at("c", 0)
		w.has(3, 0)
	})
}

// What fits stays, however it is asked for.
func TestWhatFitsStays(t *testing.T) {
	ofEach(t, func(t *testing.T, kind int) {
		w := newTwin(t, small(4, kind))
		for range 3 {
			for i := range 16 {
				w.set(name(i), 1)
			}
			for i := range 4 {
				w.set(name(16+i), 60)
			}
			w.set("x", 300)
			for i := range 20 {
				w.is(command(api.OpGet, name(i)), api.Hit)
			}
			w.is(command(api.OpDelete, name(5)), api.Deleted)
		}
	})
}
