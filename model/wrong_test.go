package model_test

import (
	"math"
	"strings"
	"testing"

	"ambry/api"
	"ambry/model"
)

// noKeys are texts that are no keys.
var noKeys = []string{
	"", " ", "a b", " a", "a ", "a\tb", "a\r", "\na", "\x00", "\x1f", "\x7f", "a\x7f\xff", strings.Repeat("k", 251),
	strings.Repeat("k", 249) + " ", strings.Repeat("\u00e9", 126), strings.Repeat("k", 70000),
}

// each calls f for a command of each Op, of an item that is there and of one that is not.
func each(f func(c api.Command)) {
	for _, op := range ops {
		for _, key := range []string{"k", "c"} {
			for _, vivify := range []bool{false, true} {
				f(with(command(op), func(c *api.Command) { c.Key, c.Vivify = key, vivify }))
			}
		}
	}
}

// refused tells that the call is answered with nothing at all.
func refused(t *testing.T, why string, now int64, c api.Command) {
	t.Helper()
	for _, flush := range []int64{0, 1, far + 2} {
		s := among(held)
		s.Flush = flush
		step{why, s, now, c, plenty, api.State{}, api.Answer{}}.check(t)
	}
}

// taken tells that the call is answered.
func taken(t *testing.T, why string, now int64, c api.Command) {
	t.Helper()
	if out, a := apply(t, among(held), now, c, plenty); a.Status == 0 || out.Cas == 0 {
		t.Errorf("P1: %s: %s at %d is answered %s, and the state %s", why, show(c), now, show(a), show(out))
	}
}

func TestWrongNow(t *testing.T) {
	each(func(c api.Command) {
		for _, now := range []int64{0, -1, -2, -1 << 32, -far, -far - 1, math.MinInt64, far + 1, far + 2, 2 * far, 1<<41 - 1, math.MaxInt64} {
			refused(t, "now", now, c)
		}
		for _, now := range []int64{1, 2, 3, 1000, 1 << 31, 1 << 32, far - 1, far} {
			taken(t, "now", now, c)
		}
	})
}

func TestWrongOp(t *testing.T) {
	for _, op := range []int{0, 8, 9, -1, -2, -7, 1 << 8, 1<<8 + 1, 1<<32 + 1, -1 << 32, math.MaxInt, math.MinInt, math.MinInt + 1} {
		for _, key := range []string{"k", "c", ""} {
			refused(t, "Op", now, api.Command{Op: op, Key: key, Recache: -1})
		}
	}
}

func TestWrongMode(t *testing.T) {
	each(func(c api.Command) {
		for _, mode := range []int{-1, -2, -4, 5, 6, 1 << 8, 1<<8 + 1, 1 << 32, 1<<32 + 1, math.MaxInt, math.MinInt} {
			refused(t, "Mode", now, with(c, func(c *api.Command) { c.Mode = mode }))
		}
		for _, mode := range modes {
			taken(t, "Mode", now, with(c, func(c *api.Command) { c.Mode = mode }))
		}
	})
}

func TestWrongKey(t *testing.T) {
	for _, op := range ops {
		for _, key := range noKeys {
			c := api.Command{Op: op, Key: key, Recache: -1, Vivify: true}
			if op == api.OpFlush {
				taken(t, "the key of a flush", now, c)
			} else {
				refused(t, "Key", now, c)
			}
		}
		for b := range 256 {
			c := api.Command{Op: op, Key: "k" + string([]byte{byte(b)}), Recache: -1}
			if op != api.OpFlush && (b < 33 || b == 127) {
				refused(t, "Key", now, c)
			} else {
				taken(t, "Key", now, c)
			}
		}
		taken(t, "Key", now, api.Command{Op: op, Key: strings.Repeat("\xff", 250)})
	}
}

func TestWrongValue(t *testing.T) {
	most := strings.Repeat("7", maxValue)
	each(func(c api.Command) {
		for _, value := range []string{most + "7", most + most} {
			refused(t, "Value", now, with(c, func(c *api.Command) { c.Value = value }))
		}
		for _, value := range []string{"", "7", most, most[1:]} {
			taken(t, "Value", now, with(c, func(c *api.Command) { c.Value = value }))
		}
	})
}

// Exp, Vive and Recache have their bounds, whether the Op has a use for them or not.
func TestWrongSeconds(t *testing.T) {
	seconds := []func(c *api.Command) *int64{
		func(c *api.Command) *int64 { return &c.Exp },
		func(c *api.Command) *int64 { return &c.Vive },
		func(c *api.Command) *int64 { return &c.Recache },
	}
	each(func(c api.Command) {
		for _, of := range seconds {
			for _, has := range []bool{false, true} {
				c := with(c, func(c *api.Command) { c.HasExp = has })
				for _, e := range []int64{far + 1, far + 2, -far - 1, -far - 2, 2 * far, -2 * far, math.MaxInt64, math.MinInt64, math.MinInt64 + 1} {
					*of(&c) = e
					refused(t, "seconds", now, c)
				}
				for _, e := range []int64{0, 1, -1, month, month + 1, now, far - 1, far, 1 - far, -far} {
					*of(&c) = e
					taken(t, "seconds", now, c)
				}
			}
		}
	})
}

// What else a command tells has no bounds.
func TestNoBounds(t *testing.T) {
	each(func(c api.Command) {
		c.Flags, c.Cas, c.Delta, c.Init = math.MaxUint32, last, last, last
		for _, most := range []int{math.MinInt, -1, 0, 1, math.MaxInt} {
			if out, a := apply(t, among(held), now, c, most); a.Status == 0 || out.Cas == 0 {
				t.Errorf("P1: %s, most %d, is answered %s", show(c), most, show(a))
			}
		}
	})
}

// odd are states that are not right.
func odd() []api.State {
	x := func(key string) api.Item { return api.Item{Key: key, Value: "5", Exp: now + 5} }
	large := api.Item{Key: "k", Value: strings.Repeat("v", maxValue+1)}
	l := []api.State{
		{Items: []api.Item{x("l"), x("k")}}, {Items: []api.Item{x("z"), x("k"), x("a")}}, {Items: []api.Item{x("k"), x("k")}},
		{Items: []api.Item{x("a"), x("k"), x("k"), x("k"), x("z")}}, {Items: []api.Item{x("")}}, {Items: []api.Item{x("k"), x("k l")}},
		{Items: []api.Item{large}}, {Items: []api.Item{{Key: "k", Exp: -1}}}, {Items: []api.Item{{Key: "k", Exp: math.MinInt64}}},
		{Items: []api.Item{{Key: "k", Last: -1}}}, {Items: []api.Item{{Key: "k", Last: math.MinInt64}}}, {Items: make([]api.Item, 5)},
	}
	for _, flush := range []int64{-1, -far, math.MinInt64} {
		l = append(l, api.State{Items: []api.Item{x("k")}, Flush: flush})
	}
	return l
}

// Of states that are not right nothing is promised but that all calls end, and keep to R1 and R4.
func TestOddStates(t *testing.T) {
	for _, s := range odd() {
		for _, c := range all() {
			for _, most := range []int{-1, 3, plenty} {
				if _, a := apply(t, s, now, c, most); a.Status == 0 {
					t.Errorf("P1: %s of %s is not answered", show(c), show(s))
				}
			}
		}
		for _, key := range append(noKeys, "a", "k", "l", "z") {
			drop(t, s, key)
		}
		if model.Right(s) {
			t.Errorf("P2: Right(%s)", show(s))
		}
	}
}
