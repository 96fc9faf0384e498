package model_test

import (
	"math"
	"testing"

	"ambry/api"
)

// getting is an OpGet of the key k that tells this Recache.
func getting(recache int64) api.Command {
	return with(command(api.OpGet), func(c *api.Command) { c.Recache = recache })
}

// got is what becomes of the item when it is got at now, and nobody wins.
func got(x api.Item) api.Item {
	x.Last = now
	return x
}

func TestGet(t *testing.T) {
	stays(t, "nothing is there", api.State{}, getting(-1), api.NotFound)
	stays(t, "not there", among(), getting(-1), api.NotFound)
	stays(t, "not there, though an end would be set", among(), with(getting(100), func(c *api.Command) { c.HasExp, c.Exp = true, 5 }), api.NotFound)
	for _, x := range []api.Item{
		held, {Key: "k"}, {Key: "k", Value: "v", Cas: 1}, {Key: "k", Exp: now + 1}, {Key: "k", Exp: math.MaxInt64, Last: now},
		{Key: "k", Last: math.MaxInt64}, {Key: "k", Last: now - 1, Cas: last, Flags: math.MaxUint32},
	} {
		becomes(t, "there", among(x), getting(-1), among(got(x)), api.Answer{Status: api.Hit, Item: got(x)})
	}
}

// What the fields say that a get has no use for does not matter.
func TestGetWithoutUse(t *testing.T) {
	c := api.Command{
		Op: api.OpGet, Mode: api.Prepend, Key: "k", Value: "v", Flags: 3, Exp: 5, Cas: 39, HasCas: true,
		Delta: 4, Init: 6, Down: true, Vive: 7, Recache: -1, Invalidate: true,
	}
	becomes(t, "there", among(held), c, among(got(held)), api.Answer{Status: api.Hit, Item: got(held)})
	stays(t, "not there", among(), c, api.NotFound)
	c.Vivify = true
	becomes(t, "there, with Vivify", among(held), c, among(got(held)), api.Answer{Status: api.Hit, Item: got(held)})
	for _, most := range []int{0, -1, math.MinInt, 5, math.MaxInt} {
		step{"most", among(held), now, c, most, among(got(held)), api.Answer{Status: api.Hit, Item: got(held)}}.check(t)
		made := api.Item{Key: "k", Exp: now + 7, Cas: 51, Won: true}
		step{"most", among(), now, c, most, behind(51, among(made)), api.Answer{Status: api.Hit, Item: made, W: true}}.check(t)
	}
}

// Items that are stale, won, both or neither, asked for with a Recache that their time is above, and one that it is below.
func TestGetWins(t *testing.T) {
	for _, p := range []struct {
		stale, won bool
		recache    int64
		w, x, z    bool
		wonThen    bool
	}{
		{false, false, -1, false, false, false, false},
		{false, false, 100, false, false, false, false},
		{false, false, 101, true, false, false, true},
		{false, true, -1, false, false, true, true},
		{false, true, 100, false, false, true, true},
		{false, true, 101, false, false, true, true},
		{true, false, -1, true, true, false, true},
		{true, false, 100, true, true, false, true},
		{true, false, 101, true, true, false, true},
		{true, true, -1, false, true, true, true},
		{true, true, 100, false, true, true, true},
		{true, true, 101, false, true, true, true},
	} {
		x := but(held, func(x *api.Item) { x.Stale, x.Won = p.stale, p.won })
		y := but(got(x), func(x *api.Item) { x.Won = p.wonThen })
		becomes(t, "win", among(x), getting(p.recache), among(y), api.Answer{Status: api.Hit, Item: y, W: p.w, X: p.x, Z: p.z})
	}
}

// Recache around what is left of the item's time.
func TestGetRecache(t *testing.T) {
	for _, p := range []struct {
		exp, recache int64
		wins         bool
	}{
		{now + 10, 9, false}, {now + 10, 10, false}, {now + 10, 11, true}, {now + 10, far, true}, {now + 10, 0, false},
		{now + 10, 1, false}, {now + 10, -1, false}, {now + 10, -9, false}, {now + 10, -11, false}, {now + 10, -far, false},
		{now + 1, 0, false}, {now + 1, 1, false}, {now + 1, 2, true}, {now + 1, -1, false}, {now + 1, -2, false},
		{now + month, month - 1, false}, {now + month, month, false}, {now + month, month + 1, true},
		{far, far - now, false}, {far, far - now + 1, true}, {now + far, far, false}, {now + far - 1, far, true},
		{math.MaxInt64, far, false}, {math.MaxInt64, -far, false},
		{0, 0, false}, {0, 1, false}, {0, far, false}, {0, now, false}, {0, now + 1, false}, {0, -1, false}, {0, -far, false},
	} {
		x := but(held, func(x *api.Item) { x.Exp = p.exp })
		y := but(got(x), func(x *api.Item) { x.Won = p.wins })
		becomes(t, "recache", among(x), getting(p.recache), among(y), api.Answer{Status: api.Hit, Item: y, W: p.wins})
	}
}

// Whether somebody wins hangs on the end that the item had, not on the one that it gets.
func TestGetSetsTheEnd(t *testing.T) {
	for _, p := range []struct {
		exp, recache, set, want int64
		wins                    bool
	}{
		{now + 10, 11, 1000, now + 1000, true}, {now + 10, 10, 1000, now + 1000, false},
		{now + 100, 50, 5, now + 5, false}, {now + 100, 101, 0, 0, true}, {0, 50, 5, now + 5, false}, {0, far, -1, now, false},
		{now + 10, 50, -1, now, true}, {now + 10, -1, month + 1, month + 1, false},
	} {
		x := but(held, func(x *api.Item) { x.Exp = p.exp })
		y := but(got(x), func(x *api.Item) { x.Won, x.Exp = p.wins, p.want })
		c := with(getting(p.recache), func(c *api.Command) { c.HasExp, c.Exp = true, p.set })
		becomes(t, "end", among(x), c, among(y), api.Answer{Status: api.Hit, Item: y, W: p.wins})
		c.HasExp = false
		y.Exp = p.exp
		becomes(t, "end that is not set", among(x), c, among(y), api.Answer{Status: api.Hit, Item: y, W: p.wins})
	}
}

// Of those who get a stale item one is told W, till it is stored anew.
func TestGetOneWins(t *testing.T) {
	s := among(but(held, func(x *api.Item) { x.Stale = true }))
	wins := func(why string, n, w, x, z int) {
		t.Helper()
		for i := range n {
			var a api.Answer
			s, a = apply(t, s, now+int64(i), getting(-1), plenty)
			if a.Status != api.Hit || a.W != (i < w) || a.X != (x > 0) || a.Z != (z > 0 && i >= w) {
				t.Errorf("P1: %s: get %d is answered %s", why, i, show(a))
			}
		}
	}
	do := func(c api.Command) {
		t.Helper()
		var a api.Answer
		if s, a = apply(t, s, now+9, c, plenty); a.Status == api.NotFound || a.Status == api.Exists {
			t.Fatalf("P1: %s is answered %s", show(c), show(a))
		}
	}
	by := func(mode int, cas uint64) api.Command {
		return with(storing(mode, "7"), func(c *api.Command) { c.HasCas, c.Cas, c.Invalidate = true, cas, true })
	}
	wins("stale", 5, 1, 1, 1)
	do(command(api.OpTouch))
	do(command(api.OpMath))
	do(command(api.OpLook))
	wins("neither touched, counted nor looked at is it stored", 3, 0, 1, 1)
	do(storing(api.Set, "5"))
	wins("stored anew", 3, 0, 0, 0)
	do(with(command(api.OpDelete), func(c *api.Command) { c.Invalidate = true }))
	wins("made stale", 4, 1, 1, 1)
	do(with(command(api.OpDelete), func(c *api.Command) { c.Invalidate = true }))
	wins("made stale again", 4, 1, 1, 1)
	do(storing(api.Append, "0"))
	wins("appended to", 3, 0, 0, 0)
	do(by(api.Replace, 1))
	wins("stored by an older token", 3, 1, 1, 1)
	do(by(api.Prepend, 1))
	wins("stored by an older token again", 3, 1, 1, 1)
	do(by(api.Set, s.Cas))
	wins("stored by its token", 3, 0, 0, 0)
}

// Of those who get an item that is soon over one is told W, too, and the others that one was.
func TestGetOneWinsOfSoonOver(t *testing.T) {
	s := among(held)
	for i, p := range []struct {
		recache int64
		w, z    bool
	}{{100, false, false}, {101, true, false}, {101, false, true}, {0, false, true}, {-1, false, true}, {far, false, true}} {
		var a api.Answer
		s, a = apply(t, s, now, getting(p.recache), plenty)
		if a.Status != api.Hit || a.W != p.w || a.X || a.Z != p.z {
			t.Errorf("P1: get %d is answered %s", i, show(a))
		}
	}
}

func TestGetVivify(t *testing.T) {
	for _, p := range []struct{ vive, exp int64 }{
		{0, 0}, {-1, now}, {-far, now}, {1, now + 1}, {30, now + 30}, {month, now + month}, {month + 1, month + 1}, {far, far},
	} {
		c := with(getting(-1), func(c *api.Command) { c.Vivify, c.Vive = true, p.vive })
		made := api.Item{Key: "k", Exp: p.exp, Cas: 51, Won: true}
		becomes(t, "made", among(), c, behind(51, among(made)), api.Answer{Status: api.Hit, Item: made, W: true})
		// Neither a Recache nor an end that is set is for an item that is made.
		c.Recache, c.HasExp, c.Exp = far, true, 77
		becomes(t, "made, whatever else is told", among(), c, behind(51, among(made)), api.Answer{Status: api.Hit, Item: made, W: true})
		c.Recache = -1
		there := but(got(held), func(x *api.Item) { x.Exp = now + 77 })
		becomes(t, "there", among(held), c, among(there), api.Answer{Status: api.Hit, Item: there})
	}
}

// Who gets it next finds what was made: it is won, and over by its end.
func TestGetBehindVivify(t *testing.T) {
	c := with(getting(-1), func(c *api.Command) { c.Vivify, c.Vive = true, 10 })
	made := api.Item{Key: "k", Exp: now + 10, Cas: 51, Won: true}
	s := behind(51, among(made))
	found := but(made, func(x *api.Item) { x.Last = now + 9 })
	step{"won", s, now + 9, c, plenty, behind(51, among(found)), api.Answer{Status: api.Hit, Item: found, Z: true}}.check(t)
	anew := api.Item{Key: "k", Exp: now + 20, Cas: 52, Won: true}
	step{"over", s, now + 10, c, plenty, behind(52, among(anew)), api.Answer{Status: api.Hit, Item: anew, W: true}}.check(t)
	c.Vive = -1
	over := api.Item{Key: "k", Exp: now, Cas: 51, Won: true}
	becomes(t, "over at once", among(), c, behind(51, among(over)), api.Answer{Status: api.Hit, Item: over, W: true})
	becomes(t, "gone", behind(51, among(over)), getting(-1), behind(51, among()), api.Answer{Status: api.NotFound})
}
