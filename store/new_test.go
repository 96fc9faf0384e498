package store_test

import (
	"math"
	"testing"

	"ambry/api"
	"ambry/store"
)

// isEmpty tells that a store is as New makes it.
func isEmpty(t *testing.T, c api.Config, s *store.Store, classes int) {
	t.Helper()
	if l, cas, flush := s.Items(), s.Cas(), s.Flush(); len(l) != 0 || cas != 0 || flush != 0 {
		t.Errorf("Q1: New(%+v) has %v, Cas %d, Flush %d", c, l, cas, flush)
	}
	if n := s.Classes(); n != classes {
		t.Errorf("Q3: New(%+v) has %d classes; want %d", c, n, classes)
	}
	for class := range api.MaxClasses {
		pages, used, row := s.Counts(class)
		if pages != 0 || used != 0 || row != 0 || len(s.Pages(class)) != 0 {
			t.Errorf("Q3: New(%+v): class %d has %d, %d, %d, pages %d", c, class, pages, used, row, s.Pages(class))
		}
	}
	for page := range api.MaxPages {
		if s.Left(page) != 0 || s.Close(page) != api.ErrPage {
			t.Errorf("Q4: New(%+v): page %d is granted", c, page)
		}
	}
}

func TestNew(t *testing.T) {
	ofEach(t, func(t *testing.T, kind int) {
		for _, p := range []struct {
			c       api.Config
			classes int
		}{
			{api.Config{Pages: 1, Page: 512, Factor: 200}, 4}, {api.Config{Pages: 1, Page: 512, Factor: 400}, 3},
			{api.Config{Pages: 1024, Page: 512, Factor: 105}, 21}, {api.Config{Pages: 2, Page: 520, Factor: 200}, 4},
			{api.Config{Pages: 3, Page: 1024, Factor: 125}, 10}, {api.Config{Pages: 1, Page: 65536, Factor: 105}, 63},
			{api.Config{Pages: 2, Page: 65536, Factor: 400}, 6}, {api.Config{Pages: 1024, Page: 1024, Factor: 200}, 5},
		} {
			p.c.Policy = kind
			s, e := store.New(p.c)
			if s == nil || e != api.OK {
				t.Errorf("Q1: New(%+v) = %v, %d", p.c, s, e)
				continue
			}
			isEmpty(t, p.c, s, p.classes)
			a, dropped := s.Do(now, setting("k", 1))
			if want := (api.Item{Key: "k", Value: "v", Cas: 1}); a != (api.Answer{Status: api.Stored, Item: want}) || len(dropped) != 0 || s.Chunk("k") != 0 {
				t.Errorf("Q1: of New(%+v) a set is answered %s, %q", p.c, show(a), dropped)
			}
		}
	})
}

// The greatest of all: 64 million bytes.
func TestNewOfAllPages(t *testing.T) {
	w := newTwin(t, api.Config{Pages: 1024, Page: 65536, Factor: 400, Policy: 3})
	w.quick = true
	w.set("k", 65536-40-1)
	w.at("k", 0)
	w.is(setting("k", 65536-40), api.TooLarge)
	for i := range 1023 {
		w.set("k"+string([]byte{byte('A' + i%32), byte('A' + i/32)}), 60000)
	}
	w.has(5, w.m.pagesOf(5)...)
	w.counts(5, 1024, 1024, 0)
	w.set("z", 60000, "k")
	w.at("z", 0)
	w.is(setting("y", 1), api.NoMemory)
	w.same()
}

func TestNewWrong(t *testing.T) {
	good := api.Config{Pages: 2, Page: 512, Factor: 200, Policy: 1}
	isWrong := func(c api.Config) {
		t.Helper()
		if s, e := store.New(c); s != nil || e != api.ErrArg {
			t.Errorf("Q1: New(%+v) = %v, %d; want nil, %d", c, s, e, api.ErrArg)
		}
	}
	numbers := []int{0, -1, -2, -512, 1 << 32, 1<<32 + 512, 1<<32 + 200, 1<<32 + 1, math.MaxInt, math.MinInt}
	for _, n := range append(numbers, 504, 511, 513, 516, 65535, 65537, 65544, 8, 1<<16+512) {
		c := good
		c.Page = n
		isWrong(c)
	}
	for _, n := range append(numbers, 1, 100, 104, 401, 500) {
		c := good
		c.Factor = n
		isWrong(c)
	}
	for _, n := range append(numbers, 1025, 1026, 4096) {
		c := good
		c.Pages = n
		isWrong(c)
	}
	for _, n := range append(numbers[1:], 4, 5, 256) {
		c := good
		c.Policy = n
		isWrong(c)
	}
	isWrong(api.Config{})
	isWrong(api.Config{Pages: 1025, Page: 512, Factor: 200, Policy: 4})
	isWrong(api.Config{Pages: 0, Page: 65537, Factor: 104, Policy: -1})
}

// A configuration that may not be leaves nothing behind: the next one is made as if it had not been.
func TestNewBehindWrong(t *testing.T) {
	w := newTwin(t, small(1, 0))
	if s, e := store.New(small(1, 4)); s != nil || e != api.ErrArg {
		t.Errorf("Q1: New = %v, %d", s, e)
	}
	w.fill("abcdefgh")
	w.set("i", 1, "a")
}
