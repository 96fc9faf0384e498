package store_test

import (
	"math/rand"
	"strings"
	"testing"

	"ambry/api"
)

// random is any command of so many keys, most of them ordinary ones, most values small.
func (w *twin) random(r *rand.Rand, keys int) api.Command {
	yes := func(of int) bool { return r.Intn(of) == 0 }
	seconds := []int64{0, 0, 0, 0, 0, -1, 3, 10, 40, month, month + 1, far, -far}
	pick := func() int64 { return seconds[r.Intn(len(seconds))] }
	lengths := []int{0, 1, 2, 5, 10, 19, 20, 21, 22, 40, 60, 83, 84, 85, 100, 150, 211, 212, 213, 300, 468, 469, 470}
	most := 5
	if yes(3) {
		most = len(lengths)
	}
	c := api.Command{
		Op: api.OpStore, Key: name(r.Intn(keys)), Value: strings.Repeat("v", lengths[r.Intn(most)]), Flags: r.Uint32(), Exp: pick(), HasExp: yes(3),
		Cas: w.s.Cas() - uint64(r.Intn(20)), HasCas: yes(8), Delta: uint64(r.Intn(200)), Init: r.Uint64() >> r.Intn(64), Down: yes(2),
		Vivify: yes(2), Vive: pick(), Recache: int64(r.Intn(12)) - 6, Invalidate: yes(2),
	}
	if yes(4) {
		c.Value = []string{"5", "99", "18446744073709551615", "007"}[r.Intn(4)]
	}
	switch n := r.Intn(100); {
	case n < 40:
		c.Op = api.OpGet
	case n < 50:
		c.Op = api.OpMath
	case n < 54:
		c.Op = api.OpTouch
	case n < 58:
		c.Op = api.OpLook
	case n < 64:
		c.Op = api.OpDelete
	case n < 65 && yes(3):
		c.Op = api.OpFlush
	case n < 75:
		c.Mode = 1 + r.Intn(4)
	}
	if yes(100) {
		l := wrongs()
		c = l[r.Intn(len(l))]
	}
	return c
}

// pageCall is any call of Q4; it tells which, and how it went.
func (w *twin) pageCall(r *rand.Rand) (string, int) {
	w.t.Helper()
	page := r.Intn(w.pages+2) - 1
	switch r.Intn(8) {
	case 0:
		return "close", int(w.close(page))
	case 1:
		return "open", int(w.open(page))
	case 2, 3:
		return "move", int(w.move(page, r.Intn(w.s.Classes()+2)-1))
	}
	// What is closed is drained, as a rule.
	for p := range w.m.cuts {
		if w.m.cuts[p].closed && r.Intn(2) == 0 {
			page = p
		}
	}
	left, is := w.s.Left(page), w.m.granted(page)
	_, ok := w.drain(page)
	switch {
	case ok:
		return "drop", 0
	case is == nil || !is.closed || left == 0:
		return "no drain", 0
	case w.s.Left(page) != left-1:
		w.t.Fatalf("Q4: Drain(%d) leaves %d of %d", page, w.s.Left(page), left)
	}
	return "drain", 0
}

// event is what is seen in a script: a command and what became of it, a call of Q4 and how it went.
type event struct {
	what    string
	n       int
	dropped int
}

// script runs one of many calls, held against the chapter's words; what is seen is counted.
func script(t *testing.T, seed int64, kind int, seen map[event]int) {
	r := rand.New(rand.NewSource(seed))
	configs := []api.Config{
		{Pages: 1, Page: 512, Factor: 200}, {Pages: 2, Page: 512, Factor: 200}, {Pages: 3, Page: 512, Factor: 200}, {Pages: 4, Page: 512, Factor: 150},
		{Pages: 3, Page: 1024, Factor: 125}, {Pages: 6, Page: 512, Factor: 400}, {Pages: 2, Page: 1024, Factor: 400}, {Pages: 10, Page: 520, Factor: 200},
	}
	c := configs[r.Intn(len(configs))]
	c.Policy = kind
	w := newTwin(t, c)
	w.now = []int64{1, now, far - 2000}[r.Intn(3)]
	keys := 8 + r.Intn(2*c.Pages*c.Page/64)
	moves := r.Intn(3) > 0
	for i := range 500 {
		w.quick = i%4 != 0
		if moves && r.Intn(4) == 0 {
			what, n := w.pageCall(r)
			seen[event{what, n, 0}]++
		} else {
			command := w.random(r, keys)
			a, dropped := w.do(command)
			op := 0
			if a.Status != 0 {
				op = command.Op
			}
			seen[event{ops[op], a.Status, len(dropped)}]++
		}
		if r.Intn(4) == 0 {
			w.now++
		}
	}
	w.quick = false
	w.same()
}

// Long scripts of any calls, of each kind of policy and several configurations.
func TestScripts(t *testing.T) {
	ofEach(t, func(t *testing.T, kind int) {
		t.Parallel()
		seen := map[event]int{}
		for seed := range int64(150) {
			script(t, seed, kind, seen)
		}
		for _, want := range []event{
			{"get", api.Hit, 0}, {"get", api.Hit, 1}, {"get", api.NotFound, 0}, {"get", api.NoMemory, 0}, {"store", api.Stored, 0}, {"store", api.Stored, 1},
			{"store", api.NotStored, 0}, {"store", api.Exists, 0}, {"store", api.NotFound, 0}, {"store", api.TooLarge, 0}, {"store", api.NoMemory, 0},
			{"store", api.NoMemory, 1}, {"math", api.Counted, 0}, {"math", api.Counted, 1}, {"math", api.NotFound, 0}, {"math", api.NotNumber, 0},
			{"math", api.NoMemory, 0}, {"touch", api.Touched, 0}, {"touch", api.NotFound, 0}, {"delete", api.Deleted, 0}, {"delete", api.NotFound, 0},
			{"flush", api.Flushed, 0}, {"look", api.Hit, 0}, {"look", api.NotFound, 0}, {"none", 0, 0},
			{"close", 0, 0}, {"close", int(api.ErrPage), 0}, {"open", 0, 0}, {"open", int(api.ErrPage), 0}, {"move", 0, 0}, {"move", int(api.ErrPage), 0},
			{"move", int(api.ErrArg), 0}, {"move", int(api.ErrBusy), 0}, {"drop", 0, 0}, {"drain", 0, 0}, {"no drain", 0, 0},
		} {
			if seen[want] == 0 {
				t.Errorf("the scripts had no %+v", want)
			}
		}
	})
}

// calls are those of short scripts, on two pages that are full.
func calls() []func(w *twin) {
	do := func(c api.Command) func(w *twin) { return func(w *twin) { w.do(c) } }
	return []func(w *twin){
		do(setting("a", 1)), do(setting("b", 30)), do(setting("A", 1)), do(setting("B", 50)), do(setting("z", 1)), do(setting("y", 50)), do(setting("x", 100)),
		do(till(setting("a", 1), 1)), do(command(api.OpGet, "a")), do(command(api.OpGet, "A")), do(command(api.OpDelete, "b")), do(command(api.OpDelete, "A")),
		do(with(command(api.OpGet, "w"), func(c *api.Command) { c.Vivify, c.Vive = true, 1 })),
		do(till(command(api.OpTouch, "a"), -1)), do(flushing(0)), do(flushing(1)), do(command(api.OpLook, "c")),
		func(w *twin) { w.close(0) }, func(w *twin) { w.close(1) }, func(w *twin) { w.open(0) }, func(w *twin) { w.drain(0) }, func(w *twin) { w.drain(1) },
		func(w *twin) { w.move(0, 1) }, func(w *twin) { w.move(1, 0) }, func(w *twin) { w.now++ },
	}
}

// All scripts of three calls, of each kind of policy, and what comes of them later.
func TestAllScripts(t *testing.T) {
	l := calls()
	ofEach(t, func(t *testing.T, kind int) {
		t.Parallel()
		for i := range len(l) * len(l) * len(l) {
			w := newTwin(t, small(2, kind))
			w.quick = true
			w.fill("abcdef")
			w.set("A", 50)
			w.set("B", 60)
			w.set("C", 70)
			w.fill("gh")
			w.set("D", 80)
			w.get("acA")
			w.quick = false
			for _, call := range []func(w *twin){l[i/len(l)/len(l)], l[i/len(l)%len(l)], l[i%len(l)]} {
				call(w)
			}
			w.quick = true
			for _, c := range []api.Command{setting("p", 1), setting("q", 50), setting("r", 1), command(api.OpGet, "a"), setting("s", 60)} {
				w.do(c)
			}
			w.same()
		}
	})
}
