package stats_test

import (
	"math"
	"math/rand"
	"slices"
	"testing"

	"ambry/api"
	"ambry/stats"
)

// All counts of new ones are 0, in the order of the chapter (S1).
func TestNew(t *testing.T) {
	want := []string{
		"STAT cmd_get 0", "STAT cmd_set 0", "STAT cmd_touch 0", "STAT cmd_flush 0",
		"STAT get_hits 0", "STAT get_misses 0",
		"STAT delete_hits 0", "STAT delete_misses 0",
		"STAT incr_hits 0", "STAT incr_misses 0",
		"STAT decr_hits 0", "STAT decr_misses 0",
		"STAT cas_hits 0", "STAT cas_badval 0", "STAT cas_misses 0",
		"STAT touch_hits 0", "STAT touch_misses 0",
		"STAT evictions 0",
	}
	if l := stats.New().Lines(); len(l) != 18 || !slices.Equal(l, want) {
		t.Errorf("S1: Lines() = %q\nwant %q", l, want)
	}
	// What all other tests hold the lines against says the same.
	if l := newPlain().lines(); !slices.Equal(l, want) {
		t.Errorf("the plain ones tell %q", l)
	}
}

// The chapter's example.
func TestExample(t *testing.T) {
	s := stats.New()
	s.Count(api.Command{Op: api.OpGet}, api.Answer{Status: api.Hit}, 0)
	s.Count(api.Command{Op: api.OpStore}, api.Answer{Status: api.Stored}, 2)
	want := []string{
		"STAT cmd_get 1", "STAT cmd_set 1", "STAT cmd_touch 0", "STAT cmd_flush 0",
		"STAT get_hits 1", "STAT get_misses 0",
		"STAT delete_hits 0", "STAT delete_misses 0",
		"STAT incr_hits 0", "STAT incr_misses 0",
		"STAT decr_hits 0", "STAT decr_misses 0",
		"STAT cas_hits 0", "STAT cas_badval 0", "STAT cas_misses 0",
		"STAT touch_hits 0", "STAT touch_misses 0",
		"STAT evictions 2",
	}
	if l := s.Lines(); !slices.Equal(l, want) {
		t.Errorf("S1: Lines() = %q\nwant %q", l, want)
	}
}

// What each command counts, of each answer that it can have (S1).
func TestCount(t *testing.T) {
	get := api.Command{Op: api.OpGet}
	vivify := api.Command{Op: api.OpGet, Vivify: true}
	set := api.Command{Op: api.OpStore}
	cas := api.Command{Op: api.OpStore, HasCas: true, Cas: 5}
	incr := api.Command{Op: api.OpMath, Delta: 1}
	incrCas := api.Command{Op: api.OpMath, Delta: 1, HasCas: true, Cas: 5}
	decr := api.Command{Op: api.OpMath, Delta: 1, Down: true}
	decrCas := api.Command{Op: api.OpMath, Delta: 1, Down: true, HasCas: true, Cas: 5}
	touch := api.Command{Op: api.OpTouch}
	del := api.Command{Op: api.OpDelete}
	delCas := api.Command{Op: api.OpDelete, HasCas: true, Cas: 5}
	look := api.Command{Op: api.OpLook}
	flush := api.Command{Op: api.OpFlush}
	for _, is := range []struct {
		c      api.Command
		status int
		want   string
	}{
		{get, api.Hit, "cmd_get 1 get_hits 1"},
		{get, api.NotFound, "cmd_get 1 get_misses 1"},
		{vivify, api.Hit, "cmd_get 1 get_hits 1"},
		{vivify, api.NoMemory, "cmd_get 1 get_misses 1"},

		{set, api.Stored, "cmd_set 1"},
		{set, api.NotStored, "cmd_set 1"},
		{set, api.TooLarge, "cmd_set 1"},
		{set, api.NoMemory, "cmd_set 1"},
		{cas, api.Stored, "cmd_set 1 cas_hits 1"},
		{cas, api.Exists, "cmd_set 1 cas_badval 1"},
		{cas, api.NotFound, "cmd_set 1 cas_misses 1"},
		{cas, api.NotStored, "cmd_set 1"},
		{cas, api.TooLarge, "cmd_set 1"},
		{cas, api.NoMemory, "cmd_set 1"},

		{incr, api.Counted, "incr_hits 1"},
		{incr, api.NotFound, "incr_misses 1"},
		{incr, api.NotNumber, ""},
		{incr, api.TooLarge, ""},
		{incr, api.NoMemory, ""},
		{incrCas, api.Counted, "incr_hits 1"},
		{incrCas, api.NotFound, "incr_misses 1"},
		{incrCas, api.Exists, ""},
		{incrCas, api.NotNumber, ""},
		{decr, api.Counted, "decr_hits 1"},
		{decr, api.NotFound, "decr_misses 1"},
		{decr, api.NotNumber, ""},
		{decr, api.TooLarge, ""},
		{decr, api.NoMemory, ""},
		{decrCas, api.Counted, "decr_hits 1"},
		{decrCas, api.NotFound, "decr_misses 1"},
		{decrCas, api.Exists, ""},
		{decrCas, api.NotNumber, ""},

		{touch, api.Touched, "cmd_touch 1 touch_hits 1"},
		{touch, api.NotFound, "cmd_touch 1 touch_misses 1"},

		{del, api.Deleted, "delete_hits 1"},
		{del, api.NotFound, "delete_misses 1"},
		{delCas, api.Deleted, "delete_hits 1"},
		{delCas, api.NotFound, "delete_misses 1"},
		{delCas, api.Exists, ""},

		{look, api.Hit, ""},
		{look, api.NotFound, ""},

		{flush, api.Flushed, "cmd_flush 1"},
	} {
		s := stats.New()
		s.Count(is.c, api.Answer{Status: is.status}, 0)
		tells(t, s, is.want)
		s.Reset()
		s.Count(is.c, api.Answer{Status: is.status}, 1)
		tells(t, s, is.want+" evictions 1")
	}
}

// each goes through all commands and answers by what may count: an Op each, also what is none, HasCas, Down, and each status.
func each(visit func(c api.Command, a api.Answer)) {
	for op := -1; op <= 9; op++ {
		for status := -1; status <= 14; status++ {
			for bits := range 4 {
				visit(api.Command{Op: op, HasCas: bits&1 > 0, Down: bits&2 > 0}, api.Answer{Status: status})
			}
		}
	}
}

// Each command with each answer, also such as no store gives, on new stats and on those that have counted (S1).
func TestEach(t *testing.T) {
	for _, lost := range []int{0, 5} {
		going := newTwin(t)
		going.mixed()
		each(func(c api.Command, a api.Answer) {
			newTwin(t).count(c, a, lost)
			going.count(c, a, lost)
		})
	}
}

// Of an answer without a status, or with one that is none, nothing is counted, nor is what was lost (S1).
func TestNoStatus(t *testing.T) {
	w := newTwin(t)
	for range 2 {
		before := w.s.Lines()
		for _, status := range noStatuses {
			for op := -1; op <= 8; op++ {
				for _, lost := range losts {
					c := api.Command{Op: op, HasCas: true}
					w.s.Count(c, api.Answer{Status: status}, lost)
					c.Down, c.HasCas = true, false
					w.s.Count(c, api.Answer{Status: status}, lost)
				}
			}
			if l := w.s.Lines(); !slices.Equal(l, before) {
				t.Fatalf("S1: status %d counts: %q\nwant %q", status, l, before)
			}
		}
		w.mixed()
	}
}

// The first status and the last one count (S1).
func TestEdgesOfStatus(t *testing.T) {
	s := stats.New()
	for _, status := range []int{0, 1, 12, 13} {
		s.Count(api.Command{Op: api.OpFlush}, api.Answer{Status: status}, 10)
	}
	tells(t, s, "cmd_flush 2 evictions 20")
	for _, status := range []int{0, 1, 12, 13} {
		s.Count(api.Command{Op: api.OpGet}, api.Answer{Status: status}, 100)
	}
	tells(t, s, "cmd_flush 2 cmd_get 2 get_hits 1 get_misses 1 evictions 220")
}

// Of an Op that is none, and of OpLook, nothing is counted but what was lost (S1).
func TestNoOp(t *testing.T) {
	w := newTwin(t)
	w.mixed()
	for _, op := range append([]int{api.OpLook}, noOps...) {
		for status := 1; status <= 12; status++ {
			c := api.Command{Op: op, HasCas: true}
			w.count(c, api.Answer{Status: status}, 0)
			c.Down = true
			w.count(c, api.Answer{Status: status}, 1)
		}
	}
	s := stats.New()
	for _, op := range noOps {
		for status := 1; status <= 12; status++ {
			s.Count(api.Command{Op: op}, api.Answer{Status: status}, 0)
		}
	}
	tells(t, s, "")
	s.Count(api.Command{Op: 8}, api.Answer{Status: api.Hit}, 3)
	s.Count(api.Command{Op: 0}, api.Answer{Status: api.NoMemory}, 4)
	tells(t, s, "evictions 7")
}

// What was lost is added, if it is above 0, whatever was asked and answered (S1).
func TestLost(t *testing.T) {
	s := stats.New()
	get, hit := api.Command{Op: api.OpGet}, api.Answer{Status: api.Hit}
	for _, is := range []struct {
		lost int
		want string
	}{
		{0, "cmd_get 1 get_hits 1"},
		{-1, "cmd_get 2 get_hits 2"},
		{math.MinInt, "cmd_get 3 get_hits 3"},
		{1, "cmd_get 4 get_hits 4 evictions 1"},
		{-1, "cmd_get 5 get_hits 5 evictions 1"},
		{0, "cmd_get 6 get_hits 6 evictions 1"},
		{2, "cmd_get 7 get_hits 7 evictions 3"},
		{-1000, "cmd_get 8 get_hits 8 evictions 3"},
		{1 << 40, "cmd_get 9 get_hits 9 evictions 1099511627779"},
		{1000000, "cmd_get 10 get_hits 10 evictions 1099512627779"},
	} {
		s.Count(get, hit, is.lost)
		tells(t, s, is.want)
	}
	w := newTwin(t)
	for _, lost := range losts {
		for op := -1; op <= 8; op++ {
			for status := 1; status <= 12; status++ {
				w.count(api.Command{Op: op, HasCas: op%2 == 0, Down: op%2 == 0}, api.Answer{Status: status}, lost)
			}
		}
	}
}

// Evictions go round at 2^64 (S1).
func TestLostGoesRound(t *testing.T) {
	s := stats.New()
	flush, done := api.Command{Op: api.OpFlush}, api.Answer{Status: api.Flushed}
	for _, is := range []struct {
		lost int
		want string
	}{
		{math.MaxInt, "cmd_flush 1 evictions 9223372036854775807"},
		{1, "cmd_flush 2 evictions 9223372036854775808"},
		{math.MaxInt, "cmd_flush 3 evictions 18446744073709551615"},
		{0, "cmd_flush 4 evictions 18446744073709551615"},
		{-1, "cmd_flush 5 evictions 18446744073709551615"},
		{1, "cmd_flush 6"},
		{1, "cmd_flush 7 evictions 1"},
		{math.MaxInt, "cmd_flush 8 evictions 9223372036854775808"},
		{math.MaxInt, "cmd_flush 9 evictions 18446744073709551615"},
		{6, "cmd_flush 10 evictions 5"},
		{math.MaxInt, "cmd_flush 11 evictions 9223372036854775812"},
		{math.MaxInt, "cmd_flush 12 evictions 3"},
	} {
		s.Count(flush, done, is.lost)
		tells(t, s, is.want)
	}
}

// Nothing else of a command or of an answer counts (S1).
func TestWhatDoesNotCount(t *testing.T) {
	plain, full := newTwin(t), newTwin(t)
	each(func(c api.Command, a api.Answer) {
		plain.count(c, a, 1)
		full.count(filled(c), filledAnswer(a), 1)
	})
	for mode := -1; mode <= 5; mode++ {
		plain.count(api.Command{Op: api.OpStore, HasCas: true, Mode: mode}, api.Answer{Status: api.Exists}, 0)
		full.count(filled(api.Command{Op: api.OpStore, HasCas: true}), api.Answer{Status: api.Exists}, 0)
	}
	if l, want := full.s.Lines(), plain.s.Lines(); !slices.Equal(l, want) {
		t.Errorf("S1: with all fields Lines() = %q\nwithout %q", l, want)
	}
}

// filled is the command with all the fields that count for nothing.
func filled(c api.Command) api.Command {
	return api.Command{
		Op: c.Op, HasCas: c.HasCas, Down: c.Down,
		Mode: api.Append, Key: "key", Value: "value", Flags: 5, Exp: 7, HasExp: true, Cas: 9, Delta: 11, Init: 13,
		Vivify: true, Vive: 15, Recache: 17, Invalidate: true,
	}
}

// filledAnswer is the answer with all the fields that count for nothing.
func filledAnswer(a api.Answer) api.Answer {
	return api.Answer{
		Status: a.Status,
		Item:   api.Item{Key: "key", Flags: 3, Value: "value", Exp: 5, Cas: 7, Last: 9, Stale: true, Won: true},
		Number: 11, W: true, X: true, Z: true,
	}
}

// Reset lets all counts be 0: of new ones, of those that have counted, twice, and then they count anew (S1).
func TestReset(t *testing.T) {
	w := newTwin(t)
	w.reset()
	w.reset()
	for range 3 {
		w.mixed()
		w.reset()
		tells(t, w.s, "")
		w.reset()
		tells(t, w.s, "")
	}
	w.s.Count(api.Command{Op: api.OpTouch}, api.Answer{Status: api.Touched}, 3)
	tells(t, w.s, "cmd_touch 1 touch_hits 1 evictions 3")
	w.s.Reset()
	w.s.Count(api.Command{Op: api.OpTouch}, api.Answer{Status: api.NotFound}, 0)
	tells(t, w.s, "cmd_touch 1 touch_misses 1")
}

// At each place of a script Reset forgets what was ahead of it, and nothing that comes behind (S1).
func TestResetAnywhere(t *testing.T) {
	var script []func(w *twin)
	for _, r := range table() {
		c := api.Command{Op: r.op, HasCas: true, Down: r.name[0] == 'd'}
		script = append(script, func(w *twin) { w.count(c, api.Answer{Status: r.statuses[0]}, 2) })
	}
	for at := range len(script) + 1 {
		for times := 1; times <= 2; times++ {
			w := newTwin(t)
			for _, do := range script[:at] {
				do(w)
			}
			for range times {
				w.reset()
			}
			for _, do := range script[at:] {
				do(w)
			}
		}
	}
}

// Asked twice, Lines tell the same; what they told before stays as it was (S1).
func TestLinesTwice(t *testing.T) {
	w := newTwin(t)
	first := w.s.Lines()
	for range 3 {
		w.same()
	}
	w.mixed()
	second := w.s.Lines()
	told := slices.Clone(second)
	for range 3 {
		w.same()
	}
	if want := newPlain().lines(); !slices.Equal(first, want) {
		t.Errorf("R1: what new ones told is %q now", first)
	}
	w.mixed()
	w.reset()
	if !slices.Equal(second, told) {
		t.Errorf("R1: what was told is %q now; it was %q", second, told)
	}
}

// What Lines told is the caller's: written over, it changes nothing (R1).
func TestLinesAreTheCallers(t *testing.T) {
	w := newTwin(t)
	for range 2 {
		l, other := w.s.Lines(), w.s.Lines()
		for i := range l {
			l[i] = "x"
		}
		_ = append(l[:0], "STAT y 5", "STAT z 6")
		if want := w.p.lines(); !slices.Equal(other, want) {
			t.Errorf("R1: two answers share memory: %q", other)
		}
		w.same()
		l = w.s.Lines()
		l = append(l[:len(l):cap(l)], "x")
		l[0] = "y"
		w.same()
		w.mixed()
	}
}

// Two have nothing to do with each other (R3).
func TestTwo(t *testing.T) {
	a, b := newTwin(t), newTwin(t)
	a.mixed()
	b.same()
	each(func(c api.Command, answer api.Answer) {
		a.count(c, answer, 1)
		b.same()
		b.count(c, answer, 2)
		a.same()
	})
	a.reset()
	b.same()
	b.mixed()
	a.same()
	b.reset()
	a.mixed()
	b.same()
	newTwin(t)
	a.same()
}

// Long rows of any calls, right ones and wrong ones, are counted as the chapter says (S1), and the same ones alike (R4).
func TestScripts(t *testing.T) {
	for seed := range int64(60) {
		first, second := script(t, seed), script(t, seed)
		if !slices.Equal(first, second) {
			t.Fatalf("R4: the script %d tells %q, then %q", seed, first, second)
		}
	}
}

// script is a row of any calls; it tells what is counted at its end.
func script(t *testing.T, seed int64) []string {
	t.Helper()
	r := rand.New(rand.NewSource(seed))
	w := newTwin(t)
	resets := []int{3, 30, 1000}[seed%3]
	for range 300 {
		c := api.Command{Op: 1 + r.Intn(7), HasCas: r.Intn(2) > 0, Down: r.Intn(2) > 0}
		a := api.Answer{Status: 1 + r.Intn(12)}
		if r.Intn(10) == 0 {
			c.Op = noOps[r.Intn(len(noOps))]
		}
		if r.Intn(10) == 0 {
			a.Status = noStatuses[r.Intn(len(noStatuses))]
		}
		if r.Intn(4) == 0 {
			c, a = filled(c), filledAnswer(a)
		}
		w.count(c, a, losts[r.Intn(len(losts))])
		if r.Intn(resets) == 0 {
			w.reset()
		}
	}
	return w.s.Lines()
}
