package model_test

import (
	"math"
	"strings"
	"testing"

	"ambry/api"
)

func TestTouch(t *testing.T) {
	c := command(api.OpTouch)
	stays(t, "nothing is there", api.State{}, c, api.NotFound)
	for _, p := range []struct{ e, exp int64 }{
		{0, 0}, {-1, now}, {-far, now}, {1, now + 1}, {30, now + 30}, {month, now + month}, {month + 1, month + 1}, {far, far},
	} {
		c.Exp = p.e
		stays(t, "not there", among(), c, api.NotFound)
		for marks := range 4 {
			x := but(held, func(x *api.Item) { x.Stale, x.Won = marks&1 != 0, marks&2 != 0 })
			y := but(x, func(x *api.Item) { x.Exp = p.exp })
			becomes(t, "there", among(x), c, among(y), api.Answer{Status: api.Touched, Item: y})
			odd := api.Command{
				Op: api.OpTouch, Mode: api.Append, Key: "k", Value: "9", Flags: 2, Exp: p.e, HasExp: true, Cas: 39, HasCas: true,
				Delta: 3, Init: 4, Down: true, Vivify: true, Vive: 8, Recache: far, Invalidate: true,
			}
			step{"without use", among(x), now, odd, -1, among(y), api.Answer{Status: api.Touched, Item: y}}.check(t)
			odd.Key = "c"
			stays(t, "without use, not there", among(x), odd, api.NotFound)
		}
	}
}

func TestDelete(t *testing.T) {
	c := command(api.OpDelete)
	stays(t, "nothing is there", api.State{}, c, api.NotFound)
	stays(t, "not there", among(), c, api.NotFound)
	for marks := range 4 {
		x := but(held, func(x *api.Item) { x.Stale, x.Won = marks&1 != 0, marks&2 != 0 })
		becomes(t, "there", among(x), c, among(), api.Answer{Status: api.Deleted})
	}
	alone := api.State{Items: []api.Item{held}, Cas: 50}
	becomes(t, "the only one", alone, c, api.State{Cas: 50}, api.Answer{Status: api.Deleted})
	first := api.State{Items: []api.Item{held, {Key: "l"}}, Cas: 50, Flush: now + 5}
	becomes(t, "the first one", first, c, api.State{Items: []api.Item{{Key: "l"}}, Cas: 50, Flush: now + 5}, api.Answer{Status: api.Deleted})
	end := api.State{Items: []api.Item{{Key: "j"}, held}}
	becomes(t, "the last one", end, c, api.State{Items: []api.Item{{Key: "j"}}}, api.Answer{Status: api.Deleted})
	odd := api.Command{
		Op: api.OpDelete, Mode: api.Append, Key: "k", Value: "9", Flags: 2, Exp: 5, HasExp: true, Cas: 39,
		Delta: 3, Init: 4, Down: true, Vivify: true, Vive: 8, Recache: far,
	}
	step{"without use", among(held), now, odd, -1, among(), api.Answer{Status: api.Deleted}}.check(t)
	stays(t, "without use, not there", among(), odd, api.NotFound)
}

func TestDeleteByToken(t *testing.T) {
	for _, cas := range []uint64{0, 39, 41, 50, 51, last} {
		c := with(command(api.OpDelete), func(c *api.Command) { c.HasCas, c.Cas = true, cas })
		stays(t, "another token", among(held), c, api.Exists)
		stays(t, "not there, by token", among(), c, api.NotFound)
		c.Invalidate, c.HasExp, c.Exp = true, true, 5
		stays(t, "another token, with Invalidate", among(held), c, api.Exists)
		stays(t, "not there, by token, with Invalidate", among(), c, api.NotFound)
	}
	for _, cas := range []uint64{0, 1, 40, last} {
		x := but(held, func(x *api.Item) { x.Cas = cas })
		c := with(command(api.OpDelete), func(c *api.Command) { c.HasCas, c.Cas = true, cas })
		becomes(t, "its token", among(x), c, among(), api.Answer{Status: api.Deleted})
		c.Invalidate = true
		y := but(x, func(x *api.Item) { x.Stale, x.Cas = true, 51 })
		becomes(t, "its token, with Invalidate", among(x), c, behind(51, among(y)), api.Answer{Status: api.Deleted, Item: y})
	}
}

func TestDeleteMakesStale(t *testing.T) {
	c := with(command(api.OpDelete), func(c *api.Command) { c.Invalidate = true })
	for _, p := range []struct {
		has    bool
		e, exp int64
	}{
		{false, 0, now + 100}, {false, 5, now + 100}, {false, -1, now + 100}, {true, 0, 0}, {true, -1, now}, {true, -far, now},
		{true, 1, now + 1}, {true, month, now + month}, {true, month + 1, month + 1}, {true, far, far},
	} {
		c.HasExp, c.Exp = p.has, p.e
		for marks := range 4 {
			x := but(held, func(x *api.Item) { x.Stale, x.Won = marks&1 != 0, marks&2 != 0 })
			y := but(x, func(x *api.Item) { x.Stale, x.Won, x.Cas, x.Exp = true, false, 51, p.exp })
			becomes(t, "made stale", among(x), c, behind(51, among(y)), api.Answer{Status: api.Deleted, Item: y})
			step{"made stale, whatever most is", among(x), now, c, -1, behind(51, among(y)), api.Answer{Status: api.Deleted, Item: y}}.check(t)
		}
		stays(t, "not there", among(), c, api.NotFound)
	}
}

func TestLook(t *testing.T) {
	c := command(api.OpLook)
	stays(t, "nothing is there", api.State{}, c, api.NotFound)
	for _, c := range []api.Command{c, {
		Op: api.OpLook, Mode: api.Append, Key: "k", Value: "9", Flags: 2, Exp: 5, HasExp: true, Cas: 39, HasCas: true,
		Delta: 3, Init: 4, Down: true, Vivify: true, Vive: 8, Recache: far, Invalidate: true,
	}} {
		stays(t, "not there", among(), c, api.NotFound)
		for marks := range 4 {
			x := but(held, func(x *api.Item) { x.Stale, x.Won = marks&1 != 0, marks&2 != 0 })
			becomes(t, "there", among(x), c, among(x), api.Answer{Status: api.Hit, Item: x})
			step{"there, whatever most is", among(x), now, c, -1, among(x), api.Answer{Status: api.Hit, Item: x}}.check(t)
		}
	}
}

// The key of a flush does not matter, nor does what else it says.
func TestFlush(t *testing.T) {
	flushed := api.Answer{Status: api.Flushed}
	for _, key := range []string{"", "k", "c", "a b", "\x7f", "\n", strings.Repeat("k", 251)} {
		for _, p := range []struct{ e, flush int64 }{
			{0, 0}, {-1, 0}, {-far, 0}, {1, now + 1}, {30, now + 30}, {month, now + month}, {month + 1, month + 1}, {far, far},
		} {
			c := api.Command{Op: api.OpFlush, Key: key, Exp: p.e}
			want := among(held)
			if want.Flush = p.flush; p.flush == 0 {
				want.Items = nil
			}
			becomes(t, "flush", among(held), c, want, flushed)
			becomes(t, "flush of nothing", api.State{Cas: 5}, c, api.State{Cas: 5, Flush: p.flush}, flushed)
			c = api.Command{
				Op: api.OpFlush, Mode: api.Append, Key: key, Value: "9", Flags: 2, Exp: p.e, HasExp: true, Cas: 39, HasCas: true,
				Delta: 3, Init: 4, Down: true, Vivify: true, Vive: 8, Recache: far, Invalidate: true,
			}
			step{"without use", among(held), now, c, -1, want, flushed}.check(t)
		}
	}
}

// A moment that is over already flushes at once: times above a month are moments.
func TestFlushOfThePast(t *testing.T) {
	for _, p := range []struct{ now, e, flush int64 }{
		{month, month + 1, month + 1}, {month + 1, month + 1, 0}, {month + 2, month + 1, 0}, {far, month + 1, 0}, {far, far, 0},
		{far - 1, far, far}, {far, 1, far + 1}, {far, month, far + month}, {1, 1, 2}, {1, -1, 0}, {1, month + 1, month + 1},
	} {
		s := api.State{Items: []api.Item{{Key: "k"}}, Cas: 8}
		want := api.State{Items: s.Items, Cas: 8, Flush: p.flush}
		if p.flush == 0 {
			want.Items = nil
		}
		step{"flush", s, p.now, api.Command{Op: api.OpFlush, Exp: p.e}, 0, want, api.Answer{Status: api.Flushed}}.check(t)
	}
}

// One flush takes the place of another that is to come.
func TestFlushAnew(t *testing.T) {
	for _, p := range []struct{ flush, e, want int64 }{
		{now + 10, 20, now + 20}, {now + 10, 5, now + 5}, {now + 10, 10, now + 10}, {now + 10, month + 1, month + 1}, {math.MaxInt64, 1, now + 1},
	} {
		s := among(held)
		s.Flush = p.flush
		want := among(held)
		want.Flush = p.want
		becomes(t, "later", s, api.Command{Op: api.OpFlush, Exp: p.e}, want, api.Answer{Status: api.Flushed})
		becomes(t, "now", s, api.Command{Op: api.OpFlush}, api.State{Cas: 50}, api.Answer{Status: api.Flushed})
		becomes(t, "now", s, api.Command{Op: api.OpFlush, Exp: -1}, api.State{Cas: 50}, api.Answer{Status: api.Flushed})
		s.Flush = now
		becomes(t, "behind one that is due", s, api.Command{Op: api.OpFlush, Exp: p.e}, api.State{Cas: 50, Flush: p.want}, api.Answer{Status: api.Flushed})
	}
}
