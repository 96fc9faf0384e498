package stats_test

import (
	"fmt"
	"maps"
	"math/rand"
	"slices"
	"strings"
	"testing"

	"ambry/api"
	"ambry/stats"
	"ambry/store"
)

// talk is a store whose commands and answers are counted; what is to be counted is told by hand.
type talk struct {
	t      *testing.T
	m      *store.Store
	s      *stats.Stats
	counts map[string]int
	now    int64
}

func newTalk(t *testing.T, c api.Config) *talk {
	return &talk{t: t, m: newStore(t, c), s: stats.New(), counts: map[string]int{}, now: now}
}

// is does the command, holds its answer's status, and that of each of these names one more is counted, of no other.
func (w *talk) is(c api.Command, status int, names string) {
	w.t.Helper()
	a, dropped := w.m.Do(w.now, c)
	if a.Status != status {
		w.t.Fatalf("Q2: %s is answered %s; want %d", show(c), show(a), status)
	}
	told := slices.Clone(dropped)
	w.s.Count(c, a, len(dropped))
	if !slices.Equal(dropped, told) {
		w.t.Fatalf("R1: the dropped keys are %q; they were %q", dropped, told)
	}
	for _, name := range strings.Fields(names) {
		w.counts[name]++
	}
	var l []string
	for _, name := range slices.Sorted(maps.Keys(w.counts)) {
		l = append(l, fmt.Sprint(name, " ", w.counts[name]))
	}
	tells(w.t, w.s, strings.Join(l, " "))
}

// with is the command of this token.
func with(c api.Command, cas uint64) api.Command {
	c.Cas, c.HasCas = cas, true
	return c
}

// How a store's answers are counted, told by hand (S1).
func TestOfAStore(t *testing.T) {
	ofEach(t, func(t *testing.T, kind int) {
		w := newTalk(t, small(1, kind))
		get := func(key string) api.Command { return command(api.OpGet, key) }
		set := func(key, value string) api.Command {
			c := setting(key, 0)
			c.Value = value
			return c
		}
		incr := func(key string) api.Command { return api.Command{Op: api.OpMath, Key: key, Delta: 1, Recache: -1} }
		decr := func(key string) api.Command {
			c := incr(key)
			c.Down = true
			return c
		}
		moded := func(c api.Command, mode int) api.Command {
			c.Mode = mode
			return c
		}
		vivify := func(c api.Command) api.Command {
			c.Vivify = true
			return c
		}
		w.is(get("a"), api.NotFound, "cmd_get get_misses")
		w.is(set("a", "5"), api.Stored, "cmd_set")
		w.is(get("a"), api.Hit, "cmd_get get_hits")
		w.is(incr("a"), api.Counted, "incr_hits")
		w.is(decr("a"), api.Counted, "decr_hits")
		w.is(incr("b"), api.NotFound, "incr_misses")
		w.is(decr("b"), api.NotFound, "decr_misses")
		w.is(set("b", "x"), api.Stored, "cmd_set")
		w.is(incr("b"), api.NotNumber, "")
		w.is(decr("b"), api.NotNumber, "")
		w.is(with(set("a", "5"), 3), api.Stored, "cmd_set cas_hits")
		w.is(with(set("a", "5"), 3), api.Exists, "cmd_set cas_badval")
		w.is(with(set("c", "5"), 3), api.NotFound, "cmd_set cas_misses")
		w.is(with(moded(set("a", "5"), api.Add), 5), api.NotStored, "cmd_set")
		w.is(with(moded(set("a", "1"), api.Append), 5), api.Stored, "cmd_set cas_hits")
		w.is(with(incr("a"), 1), api.Exists, "")
		w.is(with(decr("a"), 1), api.Exists, "")
		w.is(with(incr("a"), 6), api.Counted, "incr_hits")
		w.is(moded(set("a", "5"), api.Add), api.NotStored, "cmd_set")
		w.is(moded(set("c", "5"), api.Replace), api.NotStored, "cmd_set")
		w.is(moded(set("c", "5"), api.Prepend), api.NotStored, "cmd_set")
		w.is(setting("d", 500), api.TooLarge, "cmd_set")
		w.is(setting("d", 200), api.NoMemory, "cmd_set")
		w.is(with(setting("d", 200), 1), api.NotFound, "cmd_set cas_misses")
		w.is(with(setting("a", 500), 7), api.TooLarge, "cmd_set")
		w.is(with(setting("a", 200), 7), api.NoMemory, "cmd_set")
		w.is(vivify(get("e")), api.Hit, "cmd_get get_hits")
		w.is(vivify(get(strings.Repeat("e", 100))), api.NoMemory, "cmd_get get_misses")
		w.is(vivify(incr("f")), api.Counted, "incr_hits")
		w.is(vivify(decr("g")), api.Counted, "decr_hits")
		w.is(vivify(incr(strings.Repeat("f", 100))), api.NoMemory, "")
		w.is(vivify(decr(strings.Repeat("f", 100))), api.NoMemory, "")
		w.is(command(api.OpTouch, "a"), api.Touched, "cmd_touch touch_hits")
		w.is(command(api.OpTouch, "c"), api.NotFound, "cmd_touch touch_misses")
		w.is(command(api.OpLook, "a"), api.Hit, "")
		w.is(command(api.OpLook, "c"), api.NotFound, "")
		w.is(command(api.OpDelete, "c"), api.NotFound, "delete_misses")
		w.is(with(command(api.OpDelete, "a"), 1), api.Exists, "")
		w.is(with(command(api.OpDelete, "a"), 7), api.Deleted, "delete_hits")
		stale := command(api.OpDelete, "b")
		stale.Invalidate = true
		w.is(stale, api.Deleted, "delete_hits")
		w.is(get("b"), api.Hit, "cmd_get get_hits")
		// What may not be asked is not counted.
		w.is(get(""), 0, "")
		w.is(get("a b"), 0, "")
		w.is(set(strings.Repeat("k", 251), "v"), 0, "")
		w.is(moded(set("a", "v"), 5), 0, "")
		w.is(command(0, "a"), 0, "")
		w.is(command(8, "a"), 0, "")
		w.is(flushing(60), api.Flushed, "cmd_flush")
		w.is(flushing(0), api.Flushed, "cmd_flush")
		w.is(get("b"), api.NotFound, "cmd_get get_misses")
	})
}

// What a store drops for want of room is counted, also ahead of NoMemory; what was gone anyway is not (S1).
func TestOfAStoreThatDrops(t *testing.T) {
	ofEach(t, func(t *testing.T, kind int) {
		w := newTalk(t, small(1, kind))
		for i := range 8 {
			w.is(setting(name(i), 1), api.Stored, "cmd_set")
		}
		for i := range 5 {
			w.is(setting(name(8+i), 1), api.Stored, "cmd_set evictions")
		}
		more := command(api.OpGet, "more")
		more.Vivify = true
		w.is(more, api.Hit, "cmd_get get_hits evictions")
		count := api.Command{Op: api.OpMath, Key: "count", Vivify: true, Recache: -1}
		w.is(count, api.Counted, "incr_hits evictions")
		// Of a closed page nobody gets a chunk, but one is dropped.
		if e := w.m.Close(0); e != api.OK {
			t.Fatalf("Q4: Close(0) = %v", e)
		}
		w.is(setting("other", 1), api.NoMemory, "cmd_set evictions")
		w.is(flushing(0), api.Flushed, "cmd_flush")
		if e := w.m.Open(0); e != api.OK {
			t.Fatalf("Q4: Open(0) = %v", e)
		}
		for i := range 8 {
			c := setting(name(i), 1)
			c.Exp = 10
			w.is(c, api.Stored, "cmd_set")
		}
		w.now += 10
		w.is(setting("new", 1), api.Stored, "cmd_set")
	})
}

// ops are the names of what a command asks for.
var ops = []string{"none", "get", "store", "math", "touch", "delete", "flush", "look"}

// answers are all that a store with pages of 512 bytes can give to each Op.
var answers = map[string][]int{
	"none":   {0},
	"get":    {api.Hit, api.NotFound, api.NoMemory},
	"store":  {api.Stored, api.NotStored, api.Exists, api.NotFound, api.TooLarge, api.NoMemory},
	"math":   {api.Exists, api.NotFound, api.Counted, api.NotNumber, api.NoMemory},
	"touch":  {api.NotFound, api.Touched},
	"delete": {api.Exists, api.NotFound, api.Deleted},
	"flush":  {api.Flushed},
	"look":   {api.Hit, api.NotFound},
}

// random is any command of some keys, most of them ordinary ones.
func random(r *rand.Rand, s *store.Store) api.Command {
	yes := func(of int) bool { return r.Intn(of) == 0 }
	seconds := []int64{0, 0, 0, 0, -1, 5, 20, month, far, -far}
	lengths := []int{0, 1, 1, 1, 5, 20, 60, 100, 200, 300, 450, 471, 600}
	c := setting(name(r.Intn(40)), lengths[r.Intn(len(lengths))])
	if yes(20) {
		c.Key = strings.Repeat(c.Key, 40)
	}
	c.Exp, c.HasExp = seconds[r.Intn(len(seconds))], yes(3)
	c.Cas, c.HasCas = s.Cas()-uint64(r.Intn(10)), yes(3)
	c.Delta, c.Down, c.Vivify, c.Vive, c.Invalidate = r.Uint64(), yes(2), yes(3), seconds[r.Intn(len(seconds))], yes(2)
	if yes(3) {
		c.Value = []string{"5", "99", "18446744073709551615", "007"}[r.Intn(4)]
	}
	switch n := r.Intn(100); {
	case n < 25:
		c.Op = api.OpGet
	case n < 45:
		c.Op = api.OpMath
	case n < 55:
		c.Op = api.OpTouch
	case n < 65:
		c.Op = api.OpDelete
	case n < 70:
		c.Op = api.OpLook
	case n < 71:
		c.Op = api.OpFlush
	case n < 80:
		c.Mode = 1 + r.Intn(4)
	case n < 82:
		c.Key = []string{"", "a b", "\n", strings.Repeat("k", 251)}[r.Intn(4)]
	}
	return c
}

// Long rows of any commands, and what stores of each kind of policy answer, are counted as the chapter says (S1).
func TestOfStores(t *testing.T) {
	seen := map[string]map[int]bool{}
	lost := 0
	for seed := range int64(80) {
		r := rand.New(rand.NewSource(seed))
		w := newTwin(t)
		m := newStore(t, small(1+r.Intn(4), int(seed)%4))
		at := int64(now)
		for range 250 {
			c := random(r, m)
			a, dropped := m.Do(at, c)
			w.count(c, a, len(dropped))
			op := "none"
			if a.Status != 0 {
				op = ops[c.Op]
			}
			if seen[op] == nil {
				seen[op] = map[int]bool{}
			}
			seen[op][a.Status] = true
			lost += len(dropped)
			at += int64(r.Intn(3))
		}
	}
	for op, want := range answers {
		if l := slices.Sorted(maps.Keys(seen[op])); !slices.Equal(l, slices.Sorted(slices.Values(want))) {
			t.Errorf("of %s the scripts have seen %d; want all of %d", op, l, want)
		}
	}
	if lost == 0 {
		t.Error("no script has seen a key that was dropped")
	}
}
