package store_test

import (
	"testing"

	"ambry/api"
)

func flushing(exp int64) api.Command { return api.Command{Op: api.OpFlush, Exp: exp} }

// A flush whose moment is now, or was, takes all out at once; none is to come then (step 3).
func TestFlushNow(t *testing.T) {
	ofEach(t, func(t *testing.T, kind int) {
		for _, exp := range []int64{0, -1, -far, month + 1, now * 3, 5000000} {
			w := newTwin(t, small(2, kind))
			w.now = 5000000
			w.fill("abcdefgh")
			w.set("i", 50)
			w.is(flushing(900), api.Flushed)
			if exp > w.now {
				continue
			}
			if a := w.is(flushing(exp), api.Flushed); a != (api.Answer{Status: api.Flushed}) {
				t.Errorf("Q2: OpFlush of %d is answered %s", exp, show(a))
			}
			w.keys("")
			w.counts(0, 1, 0, 8)
			w.counts(1, 1, 0, 4)
			if w.s.Flush() != 0 || w.s.Cas() != 9 {
				t.Errorf("Q3: behind OpFlush of %d: Flush() = %d, Cas() = %d", exp, w.s.Flush(), w.s.Cas())
			}
			w.now += 1000
			w.set("a", 1)
			w.keys("a")
		}
	})
}

// One that is to come: ahead of its moment all is there, from then on the next command finds nothing (step 2).
func TestFlushToCome(t *testing.T) {
	for _, p := range []struct{ exp, at int64 }{
		{1, now + 1}, {10, now + 10}, {month, now + month}, {month + 1, month + 1}, {far, far},
	} {
		w := newTwin(t, small(2, 0))
		w.fill("abc")
		w.is(flushing(p.exp), api.Flushed)
		if w.s.Flush() != p.at {
			t.Errorf("Q3: Flush() = %d; want %d", w.s.Flush(), p.at)
		}
		w.now = p.at - 1
		w.get("abc")
		w.set("d", 50)
		w.keys("abcd")
		w.now = p.at
		// Nothing goes by itself.
		w.keys("abcd")
		w.is(command(api.OpGet, "z"), api.NotFound)
		w.keys("")
		w.counts(0, 1, 0, 8)
		w.counts(1, 1, 0, 4)
		if w.s.Flush() != 0 || w.s.Cas() != 4 {
			t.Errorf("Q3: behind the flush Flush() = %d, Cas() = %d", w.s.Flush(), w.s.Cas())
		}
		w.set("a", 1)
		w.get("a")
		w.keys("a")
	}
}

// Whichever command is the first from the moment on: all is out ahead of it.
func TestFlushAheadOfEach(t *testing.T) {
	for _, p := range []struct {
		c      api.Command
		status int
		keys   string
		flush  int64
	}{
		{command(api.OpGet, "a"), api.NotFound, "", 0}, {command(api.OpLook, "a"), api.NotFound, "", 0}, {command(api.OpMath, "a"), api.NotFound, "", 0},
		{command(api.OpTouch, "a"), api.NotFound, "", 0}, {command(api.OpDelete, "a"), api.NotFound, "", 0},
		{storing(api.Replace, "a", "v"), api.NotStored, "", 0}, {storing(api.Append, "a", "v"), api.NotStored, "", 0},
		{storing(api.Add, "a", "v"), api.Stored, "a", 0}, {setting("a", 1), api.Stored, "a", 0}, {setting("z", 1), api.Stored, "z", 0},
		{with(command(api.OpGet, "a"), func(c *api.Command) { c.Vivify = true }), api.Hit, "a", 0},
		{setting("a", 472), api.TooLarge, "", 0}, {setting("z", 300), api.NoMemory, "", 0},
		{flushing(0), api.Flushed, "", 0}, {flushing(50), api.Flushed, "", now + 60},
	} {
		for _, late := range []int64{0, 1, 1000} {
			w := newTwin(t, small(1, 0))
			w.fill("abcdefgh")
			w.is(flushing(10), api.Flushed)
			w.now += 10 + late
			if p.flush != 0 {
				p.flush = w.now + 50
			}
			w.is(p.c, p.status)
			w.keys(p.keys)
			if w.s.Flush() != p.flush {
				t.Errorf("Q3: behind %s Flush() = %d; want %d", show(p.c), w.s.Flush(), p.flush)
			}
		}
	}
}

// The last one that is said holds.
func TestFlushAnew(t *testing.T) {
	w := newTwin(t, small(1, 0))
	w.fill("ab")
	w.is(flushing(10), api.Flushed)
	w.is(flushing(20), api.Flushed)
	w.now += 19
	w.get("ab")
	w.is(flushing(5), api.Flushed)
	w.now += 4
	w.get("ab")
	w.now++
	w.is(command(api.OpGet, "a"), api.NotFound)
	w.keys("")
}

// What is gone, what is of a closed page, what is of any class: all is taken out, and none of it is told as dropped.
func TestFlushOfAll(t *testing.T) {
	ofEach(t, func(t *testing.T, kind int) {
		w := newTwin(t, small(4, kind))
		w.fill("abcdefgh")
		w.is(till(setting("i", 1), 5), api.Stored)
		w.set("A", 50)
		w.set("B", 100)
		w.now += 7
		w.close(0)
		w.keys("ABabcdefghi")
		w.is(flushing(0), api.Flushed)
		w.keys("")
		w.counts(0, 2, 0, 8)
		w.counts(1, 1, 0, 4)
		w.counts(2, 1, 0, 2)
		w.open(0)
		w.counts(0, 2, 0, 16)
		// The policies have none of them any more.
		w.fill("abcdefghijklmnop")
		w.do(setting("q", 1))
		w.counts(0, 2, 16, 0)
	})
}

// The next one in the order of the keys has a chunk above; who was taken out last has the one on top.
func TestFlushOrder(t *testing.T) {
	ofEach(t, func(t *testing.T, kind int) {
		w := newTwin(t, small(3, kind))
		for n := range 24 {
			for i := range n {
				w.set(name(i), n%4)
			}
			for i := range n % 5 {
				w.is(command(api.OpDelete, name(i*3)), min(api.Deleted, w.there(name(i*3))))
			}
			w.is(flushing(0), api.Flushed)
		}
	})
}

// there is the status of a deletion of the key.
func (w *twin) there(key string) int {
	if w.s.Chunk(key) >= 0 {
		return api.Deleted
	}
	return api.NotFound
}
