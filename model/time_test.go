package model_test

import (
	"math"
	"testing"

	"ambry/api"
)

// moments are what numbers of seconds mean at some moments, told by hand.
var moments = []struct{ now, e, want int64 }{
	{1, -1099511627776, 1}, {1, -2, 1}, {1, -1, 1}, {1, 0, 0}, {1, 1, 2}, {1, 2, 3}, {1, 2591999, 2592000}, {1, 2592000, 2592001},
	{1, 2592001, 2592001}, {1, 2592002, 2592002}, {1, 1099511627776, 1099511627776},
	{1000000, -1099511627776, 1000000}, {1000000, -1, 1000000}, {1000000, 0, 0}, {1000000, 1, 1000001}, {1000000, 1000000, 2000000},
	{1000000, 2592000, 3592000}, {1000000, 2592001, 2592001}, {1000000, 1099511627776, 1099511627776},
	{3000000, -1, 3000000}, {3000000, 2592000, 5592000}, {3000000, 2592001, 2592001}, {3000000, 3000000, 3000000}, {3000000, 3000001, 3000001},
	{1099511627776, -1099511627776, 1099511627776}, {1099511627776, -1, 1099511627776}, {1099511627776, 0, 0},
	{1099511627776, 1, 1099511627777}, {1099511627776, 2592000, 1099514219776}, {1099511627776, 2592001, 2592001},
	{1099511627776, 1099511627776, 1099511627776},
}

// Each command that sets an end sets it by the moment of its seconds, be that over already.
func TestMoments(t *testing.T) {
	for _, p := range moments {
		x := api.Item{Key: "k", Value: "5", Cas: 40}
		s, none := api.State{Items: []api.Item{x}, Cas: 50}, api.State{Cas: 50}
		ends := func(why string, s api.State, c api.Command) {
			t.Helper()
			out, a := apply(t, s, p.now, c, plenty)
			if len(out.Items) != 1 || out.Items[0].Exp != p.want || a.Item != out.Items[0] {
				t.Errorf("P1: %s: %s at %d is the state %s, and answered %s; want the end %d", why, show(c), p.now, show(out), show(a), p.want)
			}
		}
		for _, mode := range modes[:3] {
			c := with(storing(mode, "v"), func(c *api.Command) { c.Exp = p.e })
			if mode != api.Replace {
				ends("stored where none was", none, c)
			}
			if mode != api.Add {
				ends("stored", s, c)
			}
		}
		for _, op := range []int{api.OpGet, api.OpMath, api.OpDelete, api.OpTouch} {
			ends(names[op], s, with(command(op), func(c *api.Command) { c.Exp, c.HasExp, c.Invalidate = p.e, true, true }))
		}
		ends("touched", s, with(command(api.OpTouch), func(c *api.Command) { c.Exp = p.e }))
		for _, op := range []int{api.OpGet, api.OpMath} {
			ends(names[op]+", made", none, with(command(op), func(c *api.Command) { c.Vive, c.Vivify = p.e, true }))
		}
		flush := p.want
		if flush <= p.now {
			flush = 0
		}
		if out, _ := apply(t, none, p.now, api.Command{Op: api.OpFlush, Exp: p.e}, 0); out.Flush != flush {
			t.Errorf("P1: a flush of %d at %d is to come at %d; want %d", p.e, p.now, out.Flush, flush)
		}
	}
}

// Appending and prepending leave the end as it was.
func TestMomentsOfAppending(t *testing.T) {
	for _, p := range moments {
		x := api.Item{Key: "k", Value: "5", Exp: far + 7, Cas: 40}
		for _, mode := range []int{api.Append, api.Prepend} {
			c := with(storing(mode, ""), func(c *api.Command) { c.Exp, c.HasExp = p.e, true })
			y := but(x, func(x *api.Item) { x.Cas = 1 })
			step{"append", api.State{Items: []api.Item{x}}, p.now, c, plenty, api.State{Items: []api.Item{y}, Cas: 1}, api.Answer{Status: api.Stored, Item: y}}.check(t)
		}
	}
}

// becomesLike tells that the command turns the state into what it turns another one into.
func becomesLike(t *testing.T, why string, s, other api.State, now int64, c api.Command) {
	t.Helper()
	want, a := apply(t, other, now, c, plenty)
	step{why, s, now, c, plenty, want, a}.check(t)
}

// An item whose end is above now by one is there; whose end is now, or less, is there no more, whatever is asked.
func TestGone(t *testing.T) {
	for _, p := range []struct{ now, exp int64 }{
		{1, 1}, {2, 1}, {2, 2}, {now, 1}, {now, now - 1}, {now, now}, {far, 1}, {far, far - 1}, {far, far},
	} {
		x := but(held, func(x *api.Item) { x.Exp = p.exp })
		for _, c := range all() {
			becomesLike(t, "gone", among(x), among(), p.now, c)
		}
	}
	for _, p := range []struct{ now, exp int64 }{
		{1, 0}, {1, 2}, {2, 3}, {now, 0}, {now, now + 1}, {now, math.MaxInt64}, {far, 0}, {far, far + 1}, {far, math.MaxInt64},
	} {
		x := but(held, func(x *api.Item) { x.Exp = p.exp })
		look := command(api.OpLook)
		step{"not gone", among(x), p.now, look, plenty, among(x), api.Answer{Status: api.Hit, Item: x}}.check(t)
		y := but(x, func(x *api.Item) { x.Last = p.now })
		step{"not gone", among(x), p.now, command(api.OpGet), plenty, among(y), api.Answer{Status: api.Hit, Item: y}}.check(t)
		step{"not gone", among(x), p.now, storing(api.Add, "v"), plenty, among(x), api.Answer{Status: api.NotStored}}.check(t)
	}
}

// Items of other keys that are gone go with every command, those behind now stay.
func TestOthersGone(t *testing.T) {
	ends := []int64{now - 1, now, now + 1, 0, 1, math.MaxInt64, now, now + 1}
	var s, rest api.State
	s.Cas, rest.Cas = 50, 50
	for i, exp := range ends {
		x := api.Item{Key: string([]byte{"abcdlmno"[i]}), Value: "v", Exp: exp, Cas: uint64(i)}
		s.Items = append(s.Items, x)
		if exp == 0 || exp > now {
			rest.Items = append(rest.Items, x)
		}
	}
	if len(rest.Items) != 4 {
		t.Fatalf("%d of them stay", len(rest.Items))
	}
	for _, c := range all() {
		becomesLike(t, "others gone", s, rest, now, c)
	}
	tells := func(c api.Command, status int) {
		t.Helper()
		becomes(t, "others gone", s, c, rest, api.Answer{Status: status})
	}
	tells(command(api.OpGet), api.NotFound)
	tells(storing(api.Replace, "v"), api.NotStored)
	tells(with(command(api.OpLook), func(c *api.Command) { c.Key = "b" }), api.NotFound)
	rest.Flush = now + 5
	tells(api.Command{Op: api.OpFlush, Exp: 5}, api.Flushed)
}

// A flush that is to come changes nothing ahead of its moment; from then on all is gone, whatever is asked.
func TestFlushToCome(t *testing.T) {
	for _, p := range []struct {
		now, flush int64
		due        bool
	}{
		{1, 1, true}, {1, 2, false}, {2, 1, true}, {2, 2, true}, {2, 3, false}, {now, 1, true}, {now, now - 1, true}, {now, now, true},
		{now, now + 1, false}, {now, math.MaxInt64, false}, {far, far - 1, true}, {far, far, true}, {far, far + 1, false}, {far, far + month, false},
	} {
		x := but(held, func(x *api.Item) { x.Exp = 0 })
		for _, c := range all() {
			s := among(x)
			s.Flush = p.flush
			if p.due {
				becomesLike(t, "flush that is due", s, api.State{Cas: 50}, p.now, c)
			} else if c.Op != api.OpFlush {
				want, a := apply(t, among(x), p.now, c, plenty)
				want.Flush = p.flush
				step{"flush that is to come", s, p.now, c, plenty, want, a}.check(t)
			}
		}
	}
}

// A flush, told by hand from the command to what is behind its moment.
func TestFlushCommandByCommand(t *testing.T) {
	k := api.Item{Key: "k", Value: "v", Cas: 1}
	l := api.Item{Key: "l", Value: "w", Exp: 500, Cas: 2}
	m := api.Item{Key: "m", Value: "x", Cas: 3}
	s := api.State{Items: []api.Item{k, l}, Cas: 2}
	do := func(at int64, c api.Command, want api.State, a api.Answer) {
		t.Helper()
		step{"flush", s, at, c, 100, want, a}.check(t)
		s = want
	}
	do(100, api.Command{Op: api.OpFlush, Exp: 10}, api.State{Items: []api.Item{k, l}, Cas: 2, Flush: 110}, api.Answer{Status: api.Flushed})
	set := api.Command{Op: api.OpStore, Key: "m", Value: "x", Recache: -1}
	do(105, set, api.State{Items: []api.Item{k, l, m}, Cas: 3, Flush: 110}, api.Answer{Status: api.Stored, Item: m})
	do(109, command(api.OpLook), api.State{Items: []api.Item{k, l, m}, Cas: 3, Flush: 110}, api.Answer{Status: api.Hit, Item: k})
	m.Cas = 4
	do(110, set, api.State{Items: []api.Item{m}, Cas: 4}, api.Answer{Status: api.Stored, Item: m})
	do(111, command(api.OpLook), api.State{Items: []api.Item{m}, Cas: 4}, api.Answer{Status: api.NotFound})
	do(112, api.Command{Op: api.OpFlush, Exp: -1}, api.State{Cas: 4}, api.Answer{Status: api.Flushed})
}
