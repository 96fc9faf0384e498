package store_test

import (
	"slices"
	"strings"
	"testing"

	"ambry/api"
	"ambry/chain"
)

func TestExample(t *testing.T) {
	w := newTwin(t, small(1, 0))
	w.fill("abcdefgh")
	w.set("i", 1, "a")
	w.keys("bcdefghi")
	w.is(setting("j", 600), api.TooLarge)
	w.is(setting("j", 200), api.NoMemory)
	w.keys("bcdefghi")
	if w.s.Cas() != 9 {
		t.Errorf("Q2: Cas() = %d; want 9", w.s.Cas())
	}
}

// Items that are stored, got, counted, touched, deleted, made stale, looked at and flushed; what the answers say in full.
func TestOrdinary(t *testing.T) {
	ofEach(t, func(t *testing.T, kind int) {
		w := newTwin(t, small(3, kind))
		has := func(c api.Command, want api.Answer) {
			t.Helper()
			if a := w.is(c, want.Status); a != want {
				t.Fatalf("Q2: %s is answered %s; want %s", show(c), show(a), show(want))
			}
		}
		k := api.Item{Key: "k", Value: "5", Flags: 7, Exp: now + 10, Cas: 1}
		has(with(till(storing(api.Set, "k", "5"), 10), func(c *api.Command) { c.Flags = 7 }), api.Answer{Status: api.Stored, Item: k})
		w.at("k", 0)
		k.Last = now
		has(command(api.OpGet, "k"), api.Answer{Status: api.Hit, Item: k})
		k.Value, k.Cas = "8", 2
		has(with(command(api.OpMath, "k"), func(c *api.Command) { c.Delta = 3 }), api.Answer{Status: api.Counted, Number: 8, Item: k})
		k.Exp = now + 20
		has(till(command(api.OpTouch, "k"), 20), api.Answer{Status: api.Touched, Item: k})
		has(command(api.OpLook, "k"), api.Answer{Status: api.Hit, Item: k})
		w.is(storing(api.Add, "k", "x"), api.NotStored)
		w.is(storing(api.Replace, "j", "x"), api.NotStored)
		w.is(with(storing(api.Set, "k", "x"), func(c *api.Command) { c.HasCas, c.Cas = true, 1 }), api.Exists)
		w.is(with(storing(api.Set, "j", "x"), func(c *api.Command) { c.HasCas, c.Cas = true, 1 }), api.NotFound)
		k.Value, k.Cas = "80", 3
		has(storing(api.Append, "k", "0"), api.Answer{Status: api.Stored, Item: k})
		k.Value, k.Cas = "x80", 4
		has(storing(api.Prepend, "k", "x"), api.Answer{Status: api.Stored, Item: k})
		w.is(command(api.OpMath, "k"), api.NotNumber)
		k.Stale, k.Cas = true, 5
		has(with(command(api.OpDelete, "k"), func(c *api.Command) { c.Invalidate = true }), api.Answer{Status: api.Deleted, Item: k})
		k.Won = true
		has(command(api.OpGet, "k"), api.Answer{Status: api.Hit, Item: k, W: true, X: true})
		has(command(api.OpGet, "k"), api.Answer{Status: api.Hit, Item: k, X: true, Z: true})
		if l := w.s.Items(); len(l) != 1 || l[0] != k {
			t.Errorf("Q3: Items() = %s; want %s", show(l), show(k))
		}
		w.at("k", 0)
		has(command(api.OpDelete, "k"), api.Answer{Status: api.Deleted})
		w.at("k", -1)
		w.keys("")
		w.is(command(api.OpDelete, "k"), api.NotFound)
		w.is(command(api.OpGet, "k"), api.NotFound)
		made := api.Item{Key: "k", Exp: now + 5, Cas: 6, Won: true}
		has(with(command(api.OpGet, "k"), func(c *api.Command) { c.Vivify, c.Vive = true, 5 }), api.Answer{Status: api.Hit, Item: made, W: true})
		count := api.Item{Key: "j", Value: "70", Exp: now + 5, Cas: 7}
		has(with(command(api.OpMath, "j"), func(c *api.Command) { c.Vivify, c.Vive, c.Init = true, 5, 70 }), api.Answer{Status: api.Counted, Item: count, Number: 70})
		w.keys("jk")
		w.counts(0, 1, 2, 6)
		has(api.Command{Op: api.OpFlush}, api.Answer{Status: api.Flushed})
		w.keys("")
		w.counts(0, 1, 0, 8)
	})
}

// Items of all that one may have, and the largest key, come out as they were put in.
func TestWholeItems(t *testing.T) {
	w := newTwin(t, api.Config{Pages: 20, Page: 65536, Factor: 150})
	long := strings.Repeat("\xffk", 125)
	for n := range 300 {
		c := storing(api.Set, "k"+strings.Repeat("x", n%200), strings.Repeat(string([]byte{byte(n), 0, 10}), n))
		c.Flags, c.Exp = 1<<32-1-uint32(n), int64(n)*month/10
		w.quick = n%20 != 0
		w.do(c)
	}
	w.is(storing(api.Set, long, strings.Repeat("\x00", 65536-40-250)), api.Stored)
	w.is(with(command(api.OpGet, long), func(c *api.Command) { c.Vivify = true }), api.Hit)
	w.is(command(api.OpDelete, long), api.Deleted)
	w.is(with(command(api.OpGet, long), func(c *api.Command) { c.Vivify = true }), api.Hit)
	w.same()
}

// An item that grows within its class keeps its chunk, one that grows out of it or shrinks below it gets another one (steps 7 and 8).
func TestGrow(t *testing.T) {
	ofEach(t, func(t *testing.T, kind int) {
		w := newTwin(t, small(4, kind))
		w.fill("ab")
		w.set("k", 0)
		for _, n := range []int{5, 0, 23, 22, 23, 1} {
			w.set("k", n)
			w.at("k", 2)
		}
		w.counts(0, 1, 3, 5)
		w.set("k", 24)
		w.at("k", 4096)
		w.counts(0, 1, 2, 6)
		w.counts(1, 1, 1, 3)
		w.set("k", 87)
		w.at("k", 4096)
		w.set("k", 88)
		w.at("k", 8192)
		w.counts(1, 1, 0, 4)
		w.set("k", 215)
		w.at("k", 8192)
		w.set("k", 216)
		w.at("k", 12288)
		w.set("k", 471)
		w.at("k", 12288)
		w.counts(3, 1, 1, 0)
		w.set("k", 215)
		w.at("k", 8192)
		w.counts(3, 1, 0, 1)
		w.set("k", 24)
		w.at("k", 4096)
		// The chunk that it had first is on top of the row again.
		w.set("k", 23)
		w.at("k", 2)
		w.counts(0, 1, 3, 5)
		w.counts(1, 1, 0, 4)
		w.keys("abk")
	})
}

// Not a set alone makes items grow.
func TestGrowByOthers(t *testing.T) {
	ofEach(t, func(t *testing.T, kind int) {
		w := newTwin(t, small(2, kind))
		w.set("k", 20)
		w.is(storing(api.Append, "k", "abc"), api.Stored)
		w.at("k", 0)
		w.is(storing(api.Append, "k", "d"), api.Stored)
		w.at("k", 4096)
		w.is(storing(api.Replace, "k", "v"), api.Stored)
		w.at("k", 0)
		w.is(storing(api.Prepend, "k", strings.Repeat("v", 40)), api.Stored)
		w.at("k", 4096)
		long := strings.Repeat("k", 22)
		w.is(storing(api.Set, long, "99"), api.Stored)
		w.at(long, 0)
		w.is(with(command(api.OpMath, long), func(c *api.Command) { c.Delta = 1 }), api.Counted)
		w.at(long, 4097)
		w.is(with(command(api.OpMath, long), func(c *api.Command) { c.Delta, c.Down = 1, true }), api.Counted)
		w.at(long, 0)
		// Nothing else changes how many bytes there are.
		w.is(till(command(api.OpTouch, long), far), api.Touched)
		w.is(till(command(api.OpGet, long), 5), api.Hit)
		w.is(with(command(api.OpDelete, long), func(c *api.Command) { c.Invalidate = true }), api.Deleted)
		w.at(long, 0)
	})
}

// An item whose bytes are just a class's chunk, and one byte more; keys count as values do.
func TestJustAChunk(t *testing.T) {
	for _, key := range []string{"k", "key", strings.Repeat("k", 24)} {
		for class, size := range []int{64, 128, 256, 512} {
			w := newTwin(t, small(2, 0))
			n := size - 40 - len(key)
			w.set(key, n)
			w.counts(class, 1, 1, 512/size-1)
			if class == 3 {
				w.is(setting(key, n+1), api.TooLarge)
				w.counts(class, 1, 1, 0)
				continue
			}
			w.set(key, n+1)
			w.counts(class, 1, 0, 512/size)
			w.counts(class+1, 1, 1, 256/size-1)
			w.set(key, n)
			w.counts(class, 1, 1, 512/size-1)
		}
	}
}

// Most is the page less 40 bytes.
func TestMost(t *testing.T) {
	for _, page := range []int{512, 520, 1024, 65536} {
		w := newTwin(t, api.Config{Pages: 1, Page: page, Factor: 200})
		most := page - 40
		w.set("k", most-1)
		before := w.s.Cas()
		for _, c := range []api.Command{setting("k", most), setting("kk", most-1), storing(api.Append, "k", "v"), storing(api.Prepend, "k", "v"), storing(api.Add, "j", strings.Repeat("v", most))} {
			w.is(c, api.TooLarge)
		}
		w.set("k", most-2)
		w.is(storing(api.Append, "k", "v"), api.Stored)
		w.is(storing(api.Append, "k", "v"), api.TooLarge)
		w.is(storing(api.Append, "k", ""), api.Stored)
		if w.s.Cas() != before+3 {
			t.Errorf("Q2: Cas() = %d; want %d", w.s.Cas(), before+3)
		}
		w.keys("k")
		if page < 65536 {
			w.is(setting("k", 65536), api.TooLarge)
		}
		w.is(setting("k", 65537), 0)
	}
}

// A class gets its first page, a second one, and none (step 8).
func TestPages(t *testing.T) {
	ofEach(t, func(t *testing.T, kind int) {
		w := newTwin(t, small(3, kind))
		w.has(0)
		w.set("a", 1)
		w.has(0, 0)
		w.at("a", 0)
		w.fill("bcdefgh")
		w.counts(0, 1, 8, 0)
		w.set("i", 100)
		w.has(2, 1)
		w.at("i", 4096)
		w.set("j", 1)
		w.has(0, 0, 2)
		w.at("j", 8192)
		w.counts(0, 2, 9, 7)
		w.fill("klmnopq")
		w.counts(0, 2, 16, 0)
		w.set("r", 100)
		w.counts(2, 1, 2, 0)
		w.has(0, 0, 2)
		w.set("s", 1, "a")
		w.at("s", 0)
		w.set("t", 100, "i")
		w.at("t", 4096)
		w.is(setting("u", 50), api.NoMemory)
		w.is(setting("u", 300), api.NoMemory)
		w.counts(0, 2, 16, 0)
		w.counts(1, 0, 0, 0)
		// Pages are never given back, whoever goes.
		w.is(command(api.OpDelete, "t"), api.Deleted)
		w.is(command(api.OpDelete, "r"), api.Deleted)
		w.is(setting("u", 300), api.NoMemory)
		w.counts(2, 1, 0, 2)
	})
}

// Which commands the policy hears of: the item stands behind all others in a plain one then (step 7).
func TestTouches(t *testing.T) {
	invalid := with(command(api.OpDelete, "a"), func(c *api.Command) { c.Invalidate = true })
	other := with(setting("a", 2), func(c *api.Command) { c.HasCas, c.Cas = true, 77 })
	for _, p := range []struct {
		c       api.Command
		status  int
		touches bool
	}{
		{command(api.OpGet, "a"), api.Hit, true}, {with(command(api.OpGet, "a"), func(c *api.Command) { c.Vivify = true }), api.Hit, true},
		{till(command(api.OpGet, "a"), 90), api.Hit, true},
		{setting("a", 2), api.Stored, true}, {storing(api.Replace, "a", "v"), api.Stored, true},
		{storing(api.Append, "a", "v"), api.Stored, true}, {storing(api.Prepend, "a", "v"), api.Stored, true},
		{storing(api.Add, "a", "v"), api.NotStored, true}, {setting("a", 472), api.TooLarge, true}, {other, api.Exists, true},
		{command(api.OpMath, "a"), api.NotNumber, true}, {with(command(api.OpMath, "a"), func(c *api.Command) { c.HasCas, c.Cas = true, 77 }), api.Exists, true},
		{command(api.OpTouch, "a"), api.Touched, false}, {till(command(api.OpTouch, "a"), 9), api.Touched, false},
		{command(api.OpLook, "a"), api.Hit, false}, {invalid, api.Deleted, false}, {till(invalid, 9), api.Deleted, false},
		{with(command(api.OpDelete, "a"), func(c *api.Command) { c.HasCas, c.Cas = true, 77 }), api.Exists, false},
		{command(api.OpGet, "z"), api.NotFound, false}, {api.Command{Op: api.OpFlush, Exp: 900}, api.Flushed, false},
	} {
		w := newTwin(t, small(1, 0))
		w.fill("abcdefgh")
		w.is(p.c, p.status)
		if p.touches {
			w.set("i", 1, "b")
		} else {
			w.set("i", 1, "a")
		}
	}
	w := newTwin(t, small(1, 0))
	w.is(storing(api.Set, "a", "5"), api.Stored)
	w.fill("bcdefgh")
	w.is(command(api.OpMath, "a"), api.Counted)
	w.set("i", 1, "b")
}

// Of a policy that counts, each such command is one more: asked for twice it stays, else it goes.
func TestTouchesOnce(t *testing.T) {
	w := newTwin(t, small(1, 3))
	w.fill("abcdefgh")
	w.get("ab")
	w.is(command(api.OpLook, "a"), api.Hit)
	w.is(till(command(api.OpTouch, "a"), 9), api.Touched)
	w.get("b")
	w.set("i", 1, "a")
	w.set("j", 1, "c")
	// Storing anew is one, too; storing first is none.
	w = newTwin(t, small(1, 3))
	w.fill("abcdefgh")
	w.set("a", 1)
	w.set("b", 1)
	w.set("b", 2)
	w.set("i", 1, "a")
	w.set("j", 1, "c")
}

// One who grows into another class is not in use there yet, but stands ahead of all as one who came.
func TestInsertsAnew(t *testing.T) {
	w := newTwin(t, small(2, 0))
	for _, key := range []string{"a", "b", "c", "d"} {
		w.set(key, 50)
	}
	w.fill("efghijkl")
	w.set("e", 50, "a")
	w.keys("bcdefghijkl")
	w.set("m", 50, "b")
	w.set("n", 50, "c")
	w.set("o", 50, "d")
	w.set("p", 50, "e")
	// Where it went from, its chunk is free.
	w.counts(0, 1, 7, 1)
	w.set("q", 1)
	w.at("q", 4096)
	w.set("r", 1, "f")
}

// keysOf is the table as the chapter has it: a Step for each command ahead of what it does.
type keysOf struct{ *chain.Table }

func (k keysOf) set(key string) {
	k.Step()
	k.Set(key, 0)
}

// flushOrder flushes all, and holds that who went last has the chunk on top; it tells the order that the table has.
func (w *twin) flushOrder(k keysOf) []string {
	w.t.Helper()
	chunks := map[string]int{}
	for _, x := range w.s.Items() {
		chunks[x.Key] = w.s.Chunk(x.Key)
	}
	w.is(api.Command{Op: api.OpFlush}, api.Flushed)
	k.Step()
	order := k.Keys()
	for i, key := range slices.Backward(order) {
		w.set(key, 1)
		if w.s.Chunk(key) != chunks[key] {
			w.t.Fatalf("Q2: of %q key %d, %q, got the chunk %d; want %d", order, i, key, w.s.Chunk(key), chunks[key])
		}
	}
	return order
}

// Each command is one Step of the table, whatever becomes of it; none is one that may not be (step 1). The order in which all are taken out tells: who goes last has the chunk on top.
func TestSteps(t *testing.T) {
	others := []api.Command{
		command(api.OpGet, "z"), command(api.OpGet, "a"), command(api.OpTouch, "b"), command(api.OpDelete, "z"), command(api.OpLook, "c"),
		setting("z", 472), storing(api.Add, "d", "v"), {Op: api.OpFlush, Exp: 5},
	}
	wrong := []api.Command{{}, command(0, "a"), command(8, "a"), command(api.OpGet, ""), command(api.OpGet, "a b"), setting("a", 65537), till(command(api.OpGet, "a"), far+1)}
	orders := map[string]int{}
	for n := 7; n <= 16; n++ {
		for steps := range 9 {
			for _, more := range [][]api.Command{others, wrong} {
				w := newTwin(t, small(2, 0))
				k := keysOf{chain.New()}
				for i := range n {
					key := string([]byte{byte('a' + i)})
					w.set(key, 1)
					k.set(key)
				}
				for i := range steps {
					w.do(more[i%len(more)])
					if &more[0] == &others[0] {
						k.Step()
					}
				}
				orders[strings.Join(w.flushOrder(k), "")]++
			}
		}
	}
	if len(orders) < 30 {
		t.Errorf("there were %d orders alone", len(orders))
	}
}
