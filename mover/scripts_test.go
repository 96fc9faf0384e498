package mover_test

import (
	"math/rand"
	"strings"
	"testing"

	"ambry/api"
	"ambry/mover"
	"ambry/store"
)

// random is any command of so many keys, most of them ordinary ones, most values small.
func (w *twin) random(r *rand.Rand, keys int) api.Command {
	yes := func(of int) bool { return r.Intn(of) == 0 }
	seconds := []int64{0, 0, 0, 0, 0, -1, 3, 10, 40, month, month + 1, far}
	values := []int{0, 1, 5, 20, 21, 22, 50, 84, 85, 150, 212, 213, 300, 469, 470}
	most := 4
	if yes(3) {
		most = len(values)
	}
	c := setting(name(r.Intn(keys)), values[r.Intn(most)])
	c.Exp, c.HasExp, c.Mode = seconds[r.Intn(len(seconds))], yes(3), r.Intn(5)
	c.Vivify, c.Vive, c.Invalidate = yes(2), seconds[r.Intn(len(seconds))], yes(2)
	if c.Mode > 0 && !yes(5) {
		c.Mode = api.Set
	}
	switch n := r.Intn(100); {
	case n < 30:
		c.Op = api.OpGet
	case n < 34:
		c.Op = api.OpMath
	case n < 37:
		c.Op = api.OpTouch
	case n < 39:
		c.Op = api.OpLook
	case n < 45:
		c.Op = api.OpDelete
	case n < 46 && yes(4):
		c.Op = api.OpFlush
	case n < 47:
		// What may not be changes nothing.
		c.Op = 8
	}
	return c
}

// asks does a command and notes what it lacked, as a server does.
func (w *twin) asks(c api.Command) {
	w.t.Helper()
	a, dropped := w.do(c)
	if len(dropped) > 0 || a.Status == api.NoMemory {
		w.note(w.s.Class(len(c.Key) + len(c.Value)))
	}
}

// turn is one step at any moment; what it was for is counted.
func (w *twin) turn(r *rand.Rand, seen map[string]int) {
	w.t.Helper()
	page, _ := w.m.Moving()
	at := w.now
	if r.Intn(50) == 0 {
		at = noMoments[r.Intn(len(noMoments))]
	}
	left := w.s.Left(page)
	_, ok := w.stepAt(at)
	is, _ := w.m.Moving()
	switch {
	case page < 0 && is < 0:
		seen["rest"]++
	case page < 0 && w.s.Left(is) == 0:
		seen["begin without items"]++
	case page < 0:
		seen["begin"]++
	case ok:
		seen["drop"]++
	case is < 0:
		seen["come"]++
	case !isMoment(at):
		seen["no moment"]++
	case w.s.Left(page) < left:
		seen["carry, or gone"]++
	}
}

// Long scripts of any commands, with notes as a server's and steps between, of each kind of policy and several configurations.
func TestScripts(t *testing.T) {
	configs := []api.Config{
		{Pages: 2, Page: 512, Factor: 200}, {Pages: 3, Page: 512, Factor: 200}, {Pages: 5, Page: 512, Factor: 150}, {Pages: 4, Page: 1024, Factor: 125},
		{Pages: 6, Page: 512, Factor: 400}, {Pages: 10, Page: 520, Factor: 200}, {Pages: 1, Page: 512, Factor: 200},
	}
	ofEach(t, func(t *testing.T, kind int) {
		t.Parallel()
		seen := map[string]int{}
		for seed := range int64(100) {
			r := rand.New(rand.NewSource(seed))
			c := configs[r.Intn(len(configs))]
			c.Policy = kind
			w := newTwin(t, c, 1+r.Intn(1+r.Intn(6)))
			w.now = []int64{1, now, far - 2000}[r.Intn(3)]
			keys, pause := 8+r.Intn(2*c.Pages*c.Page/64), 1+r.Intn(4)
			for i := range 500 {
				w.quick = i%8 != 0
				w.asks(w.random(r, keys))
				if r.Intn(20) == 0 {
					w.note(r.Intn(66) - 1)
				}
				if r.Intn(pause) == 0 {
					w.turn(r, seen)
				}
				w.now += int64(r.Intn(4) / 3)
			}
			w.quick = false
			w.same()
		}
		for _, want := range []string{"rest", "begin", "begin without items", "drop", "come", "no moment", "carry, or gone"} {
			if seen[want] < 10 {
				t.Errorf("the scripts had %q %d times", want, seen[want])
			}
		}
	})
}

// calls are those of short scripts.
func calls() []func(w *twin) {
	do := func(c api.Command) func(w *twin) { return func(w *twin) { w.do(c) } }
	note := func(class int) func(w *twin) { return func(w *twin) { w.note(class) } }
	step := func(w *twin) { w.step() }
	return []func(w *twin){
		step, func(w *twin) { step(w); step(w) }, func(w *twin) { w.stepAt(0) }, note(0), note(1), note(2), note(4), note(-1),
		do(setting("i", 1)), do(setting("j", 30)), do(setting("z", 1)), do(setting("y", 50)), do(till(setting("k", 1), 1)),
		do(command(api.OpDelete, "a")), do(command(api.OpDelete, "i")), do(command(api.OpGet, "j")), do(flushing(0)), do(flushing(1)),
		func(w *twin) { w.now++ },
	}
}

// All scripts of three calls, of each kind of policy: at rest, just decided, and half on the way; and what comes of them later.
func TestAllScripts(t *testing.T) {
	l := calls()
	ofEach(t, func(t *testing.T, kind int) {
		t.Parallel()
		for i := range 3 * len(l) * len(l) * len(l) {
			w := newTwin(t, small(3, kind), 2)
			w.quick = true
			w.set("A", 50)
			w.fill("abcdefghijk")
			if start := i % 3; start > 0 {
				w.note(1)
				w.step()
				w.step()
				for range start - 1 {
					w.step()
				}
			}
			for _, n := range []int{i / 3 / len(l) / len(l), i / 3 / len(l) % len(l), i / 3 % len(l)} {
				l[n](w)
				w.same()
			}
			for range 3 {
				w.step()
			}
			w.do(setting("p", 1))
			w.do(setting("q", 50))
			w.same()
		}
	})
}

// Between the calls of a script wrong ones change nothing that is told later: two movers, of which one is asked them, stay alike.
func TestWrongBetween(t *testing.T) {
	ofEach(t, func(t *testing.T, kind int) {
		clean, asked := newTwin(t, small(3, kind), 2), newTwin(t, small(3, kind), 2)
		for i := range 600 {
			clean.quick, asked.quick = i%10 != 0, i%10 != 0
			asked.wrong(i)
			c := till(setting(name(i*11%50), i*13%100), int64(i%7))
			if i%5 == 0 {
				c = command(1+i/5%7, name(i*3%50))
			}
			for _, w := range []*twin{clean, asked} {
				w.asks(c)
			}
			key, ok := clean.step()
			if k, told := asked.step(); k != key || told != ok {
				t.Fatalf("R2: Step = %q, %v; of the one that is asked wrong things %q, %v", key, ok, k, told)
			}
			page, class := clean.m.Moving()
			asked.moving(page, class)
			clean.now++
			asked.now++
		}
	})
}

// wrong asks for classes that are none, for commands that may not be, and, while a page with items is under way, for steps at no moment.
func (w *twin) wrong(i int) {
	w.t.Helper()
	class := noClasses[i%len(noClasses)]
	w.note(class)
	if n := w.m.Lacks(class); n != 0 {
		w.t.Fatalf("R1: Lacks(%d) = %d", class, n)
	}
	for _, c := range []api.Command{{}, setting("", 1), setting("a b", 1), setting("k", 65537), command(8, "k"), command(-1, "k")} {
		w.is(c, 0)
	}
	if page, _ := w.m.Moving(); page >= 0 && w.s.Left(page) > 0 {
		if key, ok := w.stepAt(noMoments[i%len(noMoments)]); key != "" || ok {
			w.t.Fatalf("R2: Step = %q, %v", key, ok)
		}
	}
}

// Movers by turns have nothing to do with each other (R3), and the same calls have the same answers (R4).
func TestMoversApart(t *testing.T) {
	ofEach(t, func(t *testing.T, kind int) {
		a, b := newTwin(t, small(3, kind), 3), newTwin(t, small(3, kind), 3)
		others := []*twin{newTwin(t, small(2, kind), 1), newTwin(t, api.Config{Pages: 5, Page: 1024, Factor: 125, Policy: 3 - kind}, 2)}
		for i := range 500 {
			c := till(setting(name(i*7%40), i*5%60), int64(i%4*3))
			for _, w := range append(others, a, b) {
				w.quick = i%10 != 0
				w.asks(c)
				if i%3 == 0 {
					w.now++
				}
			}
			for j, w := range others {
				w.note((i + j) % 5)
				w.step()
			}
			key, ok := a.step()
			if k, told := b.step(); k != key || told != ok {
				t.Fatalf("R4: Step = %q, %v, and %q, %v", key, ok, k, told)
			}
			page, class := a.m.Moving()
			b.moving(page, class)
		}
	})
}

// What a step has told stays what it was, whatever is asked later (R1).
func TestToldStays(t *testing.T) {
	w := newTwin(t, small(4, 0), 1)
	var told, want []string
	for round := range 6 {
		for i := range 40 {
			w.do(setting("round"+string(rune('0'+round))+name(i), 1))
		}
		w.note(1 + round%3)
		for range 10 {
			if key, ok := w.step(); ok {
				told, want = append(told, key), append(want, strings.Clone(key))
			}
		}
	}
	if len(told) < 10 {
		t.Fatalf("there were %d keys alone", len(told))
	}
	for i, key := range told {
		if key != want[i] {
			t.Errorf("R1: %q was told; it is %q now", want[i], key)
		}
	}
}

// Of a store that is not the same at each step, or whose pages somebody else opens, closes and moves, nothing is promised, but that all calls end and none panics (R2).
func TestForeignStores(t *testing.T) {
	configs := []api.Config{{Pages: 1, Page: 512, Factor: 400}, {Pages: 3, Page: 512, Factor: 200}, {Pages: 9, Page: 65536, Factor: 105}, {Pages: 1000, Page: 512, Factor: 105}}
	r := rand.New(rand.NewSource(1))
	for range 50 {
		m := mover.New(1 + r.Intn(2))
		var l []*store.Store
		for _, c := range configs {
			s, _ := store.New(c)
			l = append(l, s)
		}
		for range 500 {
			s := l[r.Intn(len(l))]
			for i := range 5 {
				s.Do(now, setting(name(r.Intn(200)), 10+i*90))
			}
			for range 5 {
				m.Note(r.Intn(s.Classes()))
			}
			m.Step(s, now)
			page, class := m.Moving()
			switch r.Intn(8) {
			case 0:
				s.Open(page)
			case 1:
				s.Close(r.Intn(4))
			case 2:
				s.Move(page, class)
			case 3:
				s.Drain(page, now)
			}
		}
	}
}
