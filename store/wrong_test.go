package store_test

import (
	"math"
	"strings"
	"testing"

	"ambry/api"
)

// wrongs are commands that no model may be asked for.
func wrongs() []api.Command {
	get := command(api.OpGet, "a")
	var l []api.Command
	for _, op := range []int{0, -1, 8, 9, 1 << 32, 1<<32 + 1, math.MaxInt, math.MinInt} {
		l = append(l, with(get, func(c *api.Command) { c.Op = op }))
	}
	for op := api.OpGet; op <= api.OpLook; op++ {
		c := command(op, "a")
		for _, mode := range []int{-1, 5, 6, math.MaxInt, math.MinInt} {
			l = append(l, with(c, func(c *api.Command) { c.Mode = mode }))
		}
		l = append(l, with(c, func(c *api.Command) { c.Value = strings.Repeat("v", 65537) }))
		for _, e := range []int64{far + 1, -far - 1, math.MaxInt64, math.MinInt64} {
			l = append(l, with(c, func(c *api.Command) { c.Exp = e }), with(c, func(c *api.Command) { c.Vive = e }), with(c, func(c *api.Command) { c.Recache = e }))
		}
		if op == api.OpFlush {
			continue
		}
		for _, key := range []string{"", " ", "a b", "a\x00", "a\n", "a\x7f", "\x1f", strings.Repeat("a", 251)} {
			l = append(l, with(c, func(c *api.Command) { c.Key = key }), with(c, func(c *api.Command) { c.Key, c.Vivify = key, true }))
		}
	}
	return l
}

// noMoments are those that now may not be.
var noMoments = []int64{0, -1, -2, -far, far + 1, far + 2, math.MaxInt64, math.MinInt64}

// Commands and moments that may not be: the empty answer, nobody dropped, nothing done, though there are victims, items that are gone, and a flush whose moment has come.
func TestWrong(t *testing.T) {
	ofEach(t, func(t *testing.T, kind int) {
		w := newTwin(t, small(1, kind))
		w.is(till(setting("a", 1), 5), api.Stored)
		w.fill("bcdefgh")
		w.is(flushing(20), api.Flushed)
		isNothing := func(c api.Command) {
			t.Helper()
			if a := w.is(c, 0); a != (api.Answer{}) {
				t.Errorf("Q2: %s at %d is answered %s", show(c), w.now, show(a))
			}
		}
		for _, at := range []int64{now, now + 5, now + 20, far} {
			w.now = at
			for _, c := range wrongs() {
				isNothing(c)
			}
			w.keys("abcdefgh")
		}
		for _, at := range noMoments {
			w.now = at
			for op := api.OpGet; op <= api.OpLook; op++ {
				isNothing(command(op, "a"))
				isNothing(with(command(op, "z"), func(c *api.Command) { c.Vivify = true }))
			}
			isNothing(wrongs()[0])
		}
		w.now = now + 19
		w.keys("abcdefgh")
		w.set("i", 1)
		w.keys("bcdefghi")
	})
}

// What just may be is done.
func TestJustRight(t *testing.T) {
	for _, at := range []int64{1, 2, far - 1, far} {
		w := newTwin(t, small(2, 0))
		w.now = at
		for _, e := range []int64{far, -far, 0} {
			w.is(till(setting("a", 1), e), api.Stored)
			w.do(with(command(api.OpGet, "b"), func(c *api.Command) { c.Vivify, c.Vive, c.Recache = true, e, e }))
			w.do(till(command(api.OpTouch, strings.Repeat("k", 250)), e))
			w.is(setting(strings.Repeat("k", 250), 65536), api.TooLarge)
			w.is(flushing(e), api.Flushed)
		}
		w.is(with(flushing(0), func(c *api.Command) { c.Key = "no key" }), api.Flushed)
	}
}

// Between the calls of a script wrong ones change nothing that is told later: two stores, of which one is asked them, stay alike.
func TestWrongBetween(t *testing.T) {
	l := wrongs()
	ofEach(t, func(t *testing.T, kind int) {
		clean, asked := newTwin(t, small(3, kind)), newTwin(t, small(3, kind))
		for i := range 400 {
			clean.quick, asked.quick = i%10 != 0, i%10 != 0
			for range i % 3 {
				asked.do(l[i%len(l)])
				asked.wrongPages(i)
			}
			c := till(setting(name(i*11%50), i*13%100), int64(i%7))
			if i%5 == 0 {
				c = command(1+i/5%7, name(i*3%50))
			}
			a, _ := clean.do(c)
			b, _ := asked.do(c)
			if a != b || clean.s.Chunk(c.Key) != asked.s.Chunk(c.Key) {
				t.Fatalf("Q2: %s is answered %s; the other store says %s", show(c), show(b), show(a))
			}
			clean.now++
			asked.now++
		}
	})
}

// wrongPages asks for pages that are not, or not so; the store's are all open.
func (w *twin) wrongPages(i int) {
	w.t.Helper()
	page := noPages[i%len(noPages)]
	for _, e := range []api.Errno{w.close(page), w.open(page), w.open(i % 3), w.move(page, 0), w.move(i%3, i%4), w.move(i%3, noClasses[i%len(noClasses)])} {
		if e != api.ErrPage {
			w.t.Fatalf("Q4: a page that is none, or open, is answered %d", e)
		}
	}
	w.drainsQuietly(page)
	w.drainsQuietly(i % 3)
}
