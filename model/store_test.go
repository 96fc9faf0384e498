package model_test

import (
	"math"
	"strings"
	"testing"

	"ambry/api"
)

func TestStore(t *testing.T) {
	c := with(storing(api.Set, "new"), func(c *api.Command) { c.Flags, c.Exp = math.MaxUint32, 60 })
	fresh := api.Item{Key: "k", Flags: math.MaxUint32, Value: "new", Exp: now + 60, Cas: 51}
	appended := api.Item{Key: "k", Flags: 7, Value: "5new", Exp: now + 100, Cas: 51, Last: 3}
	prepended := but(appended, func(x *api.Item) { x.Value = "new5" })
	for _, p := range []struct {
		mode      int
		missing   api.Item // what it makes where there was none; none of the key k: it is not stored
		there     api.Item // what it makes of the one that is there
		emptyHere api.Item // what a value without bytes makes of it
	}{
		{api.Set, fresh, fresh, but(fresh, func(x *api.Item) { x.Value = "" })},
		{api.Add, fresh, api.Item{}, api.Item{}},
		{api.Replace, api.Item{}, fresh, but(fresh, func(x *api.Item) { x.Value = "" })},
		{api.Append, api.Item{}, appended, but(appended, func(x *api.Item) { x.Value = "5" })},
		{api.Prepend, api.Item{}, prepended, but(prepended, func(x *api.Item) { x.Value = "5" })},
	} {
		stored := func(why string, s api.State, x api.Item) {
			t.Helper()
			if x.Key == "" {
				stays(t, why, s, c, api.NotStored)
				return
			}
			becomes(t, why, s, c, behind(51, among(x)), api.Answer{Status: api.Stored, Item: x})
		}
		c.Mode, c.Value = p.mode, "new"
		stored("not there", among(), p.missing)
		for marks := range 4 {
			x := but(held, func(x *api.Item) { x.Stale, x.Won = marks&1 != 0, marks&2 != 0 })
			stored("there", among(x), p.there)
		}
		c.Value = ""
		stored("there, with nothing", among(held), p.emptyHere)
	}
}

// What the fields say that a store has no use for does not matter.
func TestStoreWithoutUse(t *testing.T) {
	for _, mode := range modes {
		c := with(storing(mode, "v"), func(c *api.Command) { c.Exp = 9 })
		odd := with(c, func(c *api.Command) {
			c.HasExp, c.Cas, c.Delta, c.Init, c.Down, c.Vivify, c.Vive, c.Recache, c.Invalidate = true, 12, 3, 4, true, true, 70, 80, true
		})
		for _, s := range []api.State{among(), among(held)} {
			want, a := apply(t, s, now, c, plenty)
			becomes(t, "without use", s, odd, want, a)
		}
	}
}

// Stores by a token that is the item's, below it and above it, with Invalidate and without.
func TestStoreByToken(t *testing.T) {
	for _, mode := range modes {
		for _, p := range []struct {
			of, cas    uint64
			invalidate bool
			stored     bool
			stale      bool
		}{
			{40, 40, false, true, false}, {40, 40, true, true, false},
			{40, 39, false, false, false}, {40, 39, true, true, true},
			{40, 41, false, false, false}, {40, 41, true, false, false},
			{40, 0, false, false, false}, {40, 0, true, true, true},
			{40, last, false, false, false}, {40, last, true, false, false},
			{0, 0, false, true, false}, {0, 0, true, true, false}, {0, last, true, false, false}, {0, 1, true, false, false},
			{last, last, false, true, false}, {last, last, true, true, false}, {last, 0, true, true, true}, {last, last - 1, true, true, true},
			{last, last - 1, false, false, false}, {1 << 63, 1<<63 - 1, true, true, true}, {1<<63 - 1, 1 << 63, true, false, false},
		} {
			for marks := range 4 {
				x := but(held, func(x *api.Item) { x.Cas, x.Stale, x.Won = p.of, marks&1 != 0, marks&2 != 0 })
				c := with(storing(mode, "v"), func(c *api.Command) { c.HasCas, c.Cas, c.Invalidate = true, p.cas, p.invalidate })
				storesByToken(t, x, c, p.stored, p.stale)
			}
		}
		byToken := with(storing(mode, "v"), func(c *api.Command) { c.HasCas, c.Cas = true, 40 })
		status := api.NotFound
		if mode >= api.Replace {
			status = api.NotStored
		}
		for _, cas := range []uint64{0, 40, 50, 51, last} {
			byToken.Cas = cas
			byToken.Invalidate = false
			stays(t, "by token, not there", among(), byToken, status)
			byToken.Invalidate = true
			stays(t, "by token, with Invalidate, not there", among(), byToken, status)
		}
	}
}

// storesByToken tells that a store of `v` by a token ends so.
func storesByToken(t *testing.T, x api.Item, c api.Command, stored, stale bool) {
	t.Helper()
	switch {
	case c.Mode == api.Add:
		stays(t, "there, by token", among(x), c, api.NotStored)
		return
	case !stored:
		stays(t, "another token", among(x), c, api.Exists)
		return
	}
	y := api.Item{Key: "k", Value: "v", Cas: 51, Stale: stale}
	switch c.Mode {
	case api.Append:
		y.Flags, y.Value, y.Exp, y.Last = x.Flags, "5v", x.Exp, x.Last
	case api.Prepend:
		y.Flags, y.Value, y.Exp, y.Last = x.Flags, "v5", x.Exp, x.Last
	}
	becomes(t, "by token", among(x), c, behind(51, among(y)), api.Answer{Status: api.Stored, Item: y})
}

// Most is reached just so, and passed by one byte.
func TestStoreMost(t *testing.T) {
	key := strings.Repeat("k", 20)
	x := api.Item{Key: key, Value: "0123456789", Flags: 7, Cas: 4}
	for _, mode := range modes {
		for _, value := range []string{"", "v", "abcde", strings.Repeat("v", 300)} {
			c := with(storing(mode, value), func(c *api.Command) { c.Key = key })
			s, y, most := among(x), api.Item{Key: key, Value: value, Cas: 51}, 20+len(value)
			switch mode {
			case api.Add:
				s = among()
			case api.Append:
				y.Value, y.Flags, most = x.Value+value, 7, most+10
			case api.Prepend:
				y.Value, y.Flags, most = value+x.Value, 7, most+10
			}
			for _, above := range []int{0, 1, 1000} {
				step{"not above most", s, now, c, most + above, behind(51, among(y)), api.Answer{Status: api.Stored, Item: y}}.check(t)
			}
			for _, few := range []int{most - 1, most / 2, 0, -1, -1000, math.MinInt} {
				step{"above most", s, now, c, few, s, api.Answer{Status: api.TooLarge}}.check(t)
			}
		}
	}
}

// What a token or a mode forbids is told ahead of what is too large.
func TestStoreFirstReason(t *testing.T) {
	refuses := func(why string, s api.State, c api.Command, status int) {
		t.Helper()
		step{why, s, now, c, 0, s, api.Answer{Status: status}}.check(t)
	}
	for _, mode := range modes {
		c := with(storing(mode, "v"), func(c *api.Command) { c.HasCas, c.Cas = true, 39 })
		switch mode {
		case api.Set:
			refuses("token", among(held), c, api.Exists)
			refuses("not there", among(), c, api.NotFound)
		case api.Add:
			refuses("there", among(held), c, api.NotStored)
			refuses("not there", among(), c, api.NotFound)
		default:
			refuses("token", among(held), c, api.Exists)
			refuses("not there", among(), c, api.NotStored)
		}
		c.Invalidate = true
		if mode != api.Add {
			refuses("made stale, but too large", among(held), c, api.TooLarge)
		}
	}
}

// The largest value that may be, and a command whose value is one byte larger.
func TestStoreLargest(t *testing.T) {
	large := strings.Repeat("v", maxValue)
	y := api.Item{Key: "k", Value: large, Cas: 51}
	becomes(t, "largest", among(held), storing(api.Set, large), behind(51, among(y)), api.Answer{Status: api.Stored, Item: y})
	becomes(t, "largest, added", among(), storing(api.Add, large), behind(51, among(y)), api.Answer{Status: api.Stored, Item: y})
	becomes(t, "largest, replaced", among(held), storing(api.Replace, large), behind(51, among(y)), api.Answer{Status: api.Stored, Item: y})
	step{"largest, most just reached", among(held), now, storing(api.Set, large), maxValue + 1, behind(51, among(y)), api.Answer{Status: api.Stored, Item: y}}.check(t)
	step{"largest, above most", among(held), now, storing(api.Set, large), maxValue, among(held), api.Answer{Status: api.TooLarge}}.check(t)
	for _, mode := range modes {
		becomes(t, "too large for a command", among(held), storing(mode, large+"v"), api.State{}, api.Answer{})
	}
	// Only most says how large a value may grow by being appended to.
	z := but(held, func(x *api.Item) { x.Value, x.Cas = "5"+large, 51 })
	becomes(t, "appended to beyond a command's value", among(held), storing(api.Append, large), behind(51, among(z)), api.Answer{Status: api.Stored, Item: z})
}

// Keys and values of any bytes are stored as they are.
func TestStoreBytes(t *testing.T) {
	for b := range 256 {
		c := string([]byte{byte(b)})
		y := api.Item{Key: "k", Value: c + "\r\n" + c, Cas: 51}
		becomes(t, "bytes", among(held), storing(api.Set, y.Value), behind(51, among(y)), api.Answer{Status: api.Stored, Item: y})
		z := but(held, func(x *api.Item) { x.Value, x.Cas = "5"+c, 51 })
		becomes(t, "bytes, appended", among(held), storing(api.Append, c), behind(51, among(z)), api.Answer{Status: api.Stored, Item: z})
		z.Value = c + "5"
		becomes(t, "bytes, prepended", among(held), storing(api.Prepend, c), behind(51, among(z)), api.Answer{Status: api.Stored, Item: z})
	}
	for _, key := range []string{"!", "~", "\x80", "\xff", "\u00e9", strings.Repeat("k", 250), strings.Repeat("\xff", 250)} {
		y := api.Item{Key: key, Value: "v", Cas: 1}
		c := with(storing(api.Set, "v"), func(c *api.Command) { c.Key = key })
		becomes(t, "key", api.State{}, c, api.State{Items: []api.Item{y}, Cas: 1}, api.Answer{Status: api.Stored, Item: y})
	}
}
