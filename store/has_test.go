package store_test

import (
	"math"
	"slices"
	"strings"
	"testing"

	"ambry/api"
)

// Class: of what key and value have together, Head comes on top (Q3).
func TestClass(t *testing.T) {
	w := newTwin(t, small(1, 0))
	for _, p := range []struct{ n, class int }{
		{0, 0}, {1, 0}, {23, 0}, {24, 0}, {25, 1}, {87, 1}, {88, 1}, {89, 2}, {215, 2}, {216, 2}, {217, 3}, {471, 3}, {472, 3}, {473, -1}, {512, -1},
		{513, -1}, {65496, -1}, {999999, -1}, {1000000, -1}, {1000001, -1}, {-1, -1}, {-39, -1}, {-40, -1}, {-41, -1}, {-1000000, -1},
		{math.MaxInt, -1}, {math.MaxInt - 39, -1}, {math.MaxInt - 40, -1}, {math.MinInt, -1}, {math.MinInt + 1, -1}, {1 << 32, -1}, {1<<32 + 1, -1}, {-1 << 32, -1},
	} {
		if class := w.s.Class(p.n); class != p.class {
			t.Errorf("Q3: Class(%d) = %d; want %d", p.n, class, p.class)
		}
	}
	for _, c := range []api.Config{{Pages: 1, Page: 65536, Factor: 105}, {Pages: 1, Page: 1024, Factor: 125}, {Pages: 1, Page: 520, Factor: 400}} {
		w := newTwin(t, c)
		for n := -100; n < c.Page+100; n++ {
			want := -1
			if n >= 0 {
				want = w.m.least(n + 40)
			}
			if class := w.s.Class(n); class != want {
				t.Fatalf("Q3: %+v: Class(%d) = %d; want %d", c, n, class, want)
			}
		}
		// What the greatest one just holds is Most.
		most, greatest := c.Page-40, w.s.Classes()-1
		if w.s.Class(most) != greatest || w.s.Class(most+1) != -1 || w.s.Class(1000000) != -1 {
			t.Errorf("Q3: %+v: Class(%d) = %d, Class(%d) = %d", c, most, w.s.Class(most), most+1, w.s.Class(most+1))
		}
	}
}

// A class is where an item of so many bytes comes to.
func TestClassIsWhereItemsCome(t *testing.T) {
	for n := range 471 {
		w := newTwin(t, small(1, 0))
		w.quick = true
		w.set("k", n)
		_, used, _ := w.s.Counts(w.s.Class(n + 1))
		if used != 1 {
			t.Errorf("Q3: an item of %d bytes is not in the class %d", n+1, w.s.Class(n+1))
		}
	}
}

// Items are told by rising keys, byte by byte, also those that are gone.
func TestItems(t *testing.T) {
	keys := []string{"!", "A", "Z", "a", "aa", "ab", "b", "b!", "c", "k", "kk", "y", "z", "z\x80", "\u00e9", "\u3000", "\xff", "\xff\xff"}
	for first := range keys {
		w := newTwin(t, small(4, 2))
		for i := range keys {
			// Another order for each first one: 5 has no divisor in common with 18.
			w.is(till(storing(api.Set, keys[(first+5*i)%len(keys)], "v"), int64(i%3)), api.Stored)
		}
		w.now += 10
		l := w.s.Items()
		if len(l) != len(keys) {
			t.Fatalf("Q3: there are %d items; want %d", len(l), len(keys))
		}
		for i, x := range l {
			if x.Key != keys[i] || x.Value != "v" {
				t.Errorf("Q3: item %d is %s; want %q", i, show(x), keys[i])
			}
		}
	}
}

// What there is not: keys, classes, pages.
func TestNothingThere(t *testing.T) {
	w := newTwin(t, small(2, 0))
	w.fill("ab")
	w.set("c", 50)
	for _, key := range []string{"", "c ", "A", "aa", "z", "a\x00", "\xff", strings.Repeat("a", 251), strings.Repeat("a", 70000)} {
		w.at(key, -1)
	}
	w.at("c", 4096)
	for _, class := range append(noClasses, 4, 5, 62) {
		w.counts(class, 0, 0, 0)
		w.has(class)
	}
	for _, class := range []int{2, 3} {
		w.counts(class, 0, 0, 0)
		w.has(class)
	}
	for _, page := range append(noPages, 2, 3, 1023) {
		if n := w.s.Left(page); n != 0 {
			t.Errorf("Q4: Left(%d) = %d", page, n)
		}
	}
}

// Left of pages: open ones, closed ones, one that is free.
func TestLeft(t *testing.T) {
	w := newTwin(t, small(3, 0))
	left := func(page, n int) {
		t.Helper()
		if got := w.s.Left(page); got != n {
			t.Errorf("Q4: Left(%d) = %d; want %d", page, got, n)
		}
	}
	left(0, 0)
	w.fill("abcdefghij")
	left(0, 8)
	left(1, 2)
	left(2, 0)
	w.close(0)
	left(0, 8)
	w.is(command(api.OpDelete, "c"), api.Deleted)
	left(0, 7)
	w.drain(0)
	left(0, 6)
	left(1, 3)
	w.open(0)
	left(0, 6)
}

// Pages of a class, rising, as they come and are moved.
func TestPagesOfClasses(t *testing.T) {
	w := newTwin(t, small(5, 0))
	w.fill("abcdefgh")
	w.set("x", 300)
	w.fill("ijklmnop")
	w.set("y", 300)
	w.fill("q")
	w.has(0, 0, 2, 4)
	w.has(3, 1, 3)
	w.is(command(api.OpDelete, "x"), api.Deleted)
	w.close(1)
	w.has(3, 1, 3)
	w.move(1, 0)
	w.has(0, 0, 1, 2, 4)
	w.has(3, 3)
}

// spoil writes over a list and the room behind it.
func spoil[T any](l []T, x T) {
	for i := range l[:cap(l)] {
		l[:cap(l)][i] = x
	}
}

// What a store tells is the caller's (R1): the twin writes over all of it at each call; here, over all at once, and into the room behind.
func TestTellsNoMemory(t *testing.T) {
	ofEach(t, func(t *testing.T, kind int) {
		w := newTwin(t, small(2, kind))
		w.fill("abcdefgh")
		w.set("i", 50)
		_, dropped := w.s.Do(w.now, setting("j", 1))
		w.m.Do(w.now, setting("j", 1))
		first, second := w.s.Items(), w.s.Items()
		pages, again := w.s.Pages(0), w.s.Pages(0)
		if len(dropped) != 1 || len(first) != 9 || len(pages) != 1 {
			t.Fatalf("Q2: dropped %q; Items() = %s; Pages(0) = %d", dropped, show(first), pages)
		}
		spoil(dropped, "spoilt")
		spoil(first, api.Item{Key: "spoilt", Won: true})
		spoil(pages, 1)
		if third := w.s.Items(); !slices.Equal(second, third) {
			t.Errorf("R1: Items() = %s; it was %s", show(third), show(second))
		}
		if third := w.s.Pages(0); !slices.Equal(again, third) {
			t.Errorf("R1: Pages(0) = %d; it was %d", third, again)
		}
		w.back = true
		w.do(setting("k", 1))
		w.get("k")
	})
}

// Two stores by turns have nothing to do with each other (R3), and the same calls have the same answers (R4).
func TestStoresApart(t *testing.T) {
	ofEach(t, func(t *testing.T, kind int) {
		a, b := newTwin(t, small(2, kind)), newTwin(t, small(2, kind))
		c, d := newTwin(t, small(1, kind)), newTwin(t, api.Config{Pages: 3, Page: 1024, Factor: 125, Policy: 3 - kind})
		for i := range 300 {
			set := till(setting(name(i*7%40), i*5%60), int64(i%4*3))
			x, lost := a.do(set)
			y, lostToo := b.do(set)
			if x != y || !slices.Equal(lost, lostToo) {
				t.Fatalf("R4: %s is answered %s, %q, and %s, %q", show(set), show(x), lost, show(y), lostToo)
			}
			c.do(command(1+i%7, name(i*3%40)))
			d.do(with(set, func(c *api.Command) { c.Mode = i % 5 }))
			for _, w := range []*twin{a, b, c, d} {
				w.now += int64(i % 2)
			}
		}
		if !slices.Equal(a.s.Items(), b.s.Items()) {
			t.Errorf("R4: Items() = %s, and %s", show(a.s.Items()), show(b.s.Items()))
		}
	})
}
