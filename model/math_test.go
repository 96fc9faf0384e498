package model_test

import (
	"math"
	"strings"
	"testing"

	"ambry/api"
)

const top = "18446744073709551615" // 2^64 - 1

func counting(delta uint64, down bool) api.Command {
	return with(command(api.OpMath), func(c *api.Command) { c.Delta, c.Down = delta, down })
}

// counts tells that the command makes this number of the item, of which else only the token changes.
func counts(t *testing.T, why string, x api.Item, c api.Command, value string, n uint64) {
	t.Helper()
	y := but(x, func(x *api.Item) { x.Value, x.Cas = value, 51 })
	becomes(t, why, among(x), c, behind(51, among(y)), api.Answer{Status: api.Counted, Item: y, Number: n})
}

func TestMath(t *testing.T) {
	stays(t, "nothing is there", api.State{}, counting(1, false), api.NotFound)
	stays(t, "not there", among(), counting(1, false), api.NotFound)
	stays(t, "not there, down", among(), counting(1, true), api.NotFound)
	for _, p := range []struct {
		value string
		delta uint64
		down  bool
		want  string
		n     uint64
	}{
		{"5", 3, false, "8", 8}, {"5", 0, false, "5", 5}, {"007", 0, false, "7", 7}, {"007", 0, true, "7", 7}, {"99", 1, false, "100", 100},
		{"100", 1, true, "99", 99}, {"5", 5, true, "0", 0}, {"5", 6, true, "0", 0}, {"5", math.MaxUint64, true, "0", 0}, {"0", 1, true, "0", 0},
		{"5", 4, true, "1", 1}, {top, 1, false, "0", 0}, {top, 2, false, "1", 1}, {top, 0, false, top, math.MaxUint64},
		{top, math.MaxUint64, false, "18446744073709551614", math.MaxUint64 - 1}, {"1", math.MaxUint64, false, "0", 0},
		{"0", math.MaxUint64, false, top, math.MaxUint64}, {top, math.MaxUint64, true, "0", 0}, {top, 1, true, "18446744073709551614", math.MaxUint64 - 1},
		{"9223372036854775808", 1 << 63, false, "0", 0}, {"00000000000000000000", 5, false, "5", 5},
	} {
		for marks := range 4 {
			x := but(held, func(x *api.Item) { x.Value, x.Stale, x.Won = p.value, marks&1 != 0, marks&2 != 0 })
			counts(t, "number", x, counting(p.delta, p.down), p.want, p.n)
		}
	}
}

func TestMathOfNoNumber(t *testing.T) {
	for _, value := range []string{
		"", " ", "x", "-", "-1", "+1", "1 ", " 1", "1x", "1.0", "0x1", "5\r\n", "1\x00", "\uff11", "18446744073709551616", "0" + top,
		"99999999999999999999", strings.Repeat("0", 21), strings.Repeat("7", 3000),
	} {
		x := but(held, func(x *api.Item) { x.Value = value })
		for _, c := range []api.Command{counting(1, false), counting(1, true), counting(0, false)} {
			stays(t, "no number", among(x), c, api.NotNumber)
			c.Vivify, c.Init, c.HasExp, c.Exp = true, 5, true, 9
			stays(t, "no number, with Vivify and an end", among(x), c, api.NotNumber)
			c.HasCas, c.Cas = true, 39
			stays(t, "another token, ahead of no number", among(x), c, api.Exists)
			c.Cas = 40
			step{"no number, ahead of too large", among(x), now, c, 0, among(x), api.Answer{Status: api.NotNumber}}.check(t)
		}
	}
}

func TestMathByToken(t *testing.T) {
	for _, cas := range []uint64{0, 39, 41, 50, 51, last} {
		c := with(counting(1, false), func(c *api.Command) { c.HasCas, c.Cas = true, cas })
		stays(t, "another token", among(held), c, api.Exists)
		c.Invalidate = true
		stays(t, "another token, with Invalidate", among(held), c, api.Exists)
		stays(t, "not there, by token", among(), c, api.NotFound)
		c.HasCas = false
		counts(t, "a token that is not asked for", held, c, "6", 6)
	}
	c := with(counting(1, false), func(c *api.Command) { c.HasCas, c.Cas = true, 40 })
	counts(t, "its token", held, c, "6", 6)
}

func TestMathSetsTheEnd(t *testing.T) {
	for _, p := range []struct{ set, exp int64 }{
		{0, 0}, {-1, now}, {-far, now}, {1, now + 1}, {month, now + month}, {month + 1, month + 1}, {far, far},
	} {
		c := with(counting(2, false), func(c *api.Command) { c.HasExp, c.Exp, c.Vive = true, p.set, 55 })
		y := but(held, func(x *api.Item) { x.Value, x.Exp, x.Cas = "7", p.exp, 51 })
		becomes(t, "end", among(held), c, behind(51, among(y)), api.Answer{Status: api.Counted, Item: y, Number: 7})
		c.HasExp = false
		counts(t, "an end that is not set", held, c, "7", 7)
	}
}

func TestMathVivify(t *testing.T) {
	for _, p := range []struct{ vive, exp int64 }{
		{0, 0}, {-1, now}, {-far, now}, {1, now + 1}, {month, now + month}, {month + 1, month + 1}, {far, far},
	} {
		for _, n := range []struct {
			init uint64
			text string
		}{{0, "0"}, {5, "5"}, {math.MaxUint64, top}} {
			c := with(counting(3, false), func(c *api.Command) { c.Vivify, c.Vive, c.Init = true, p.vive, n.init })
			y := api.Item{Key: "k", Value: n.text, Exp: p.exp, Cas: 51}
			made := api.Answer{Status: api.Counted, Item: y, Number: n.init}
			becomes(t, "made", among(), c, behind(51, among(y)), made)
			// What would be done to one that is there is not done to one that is made.
			c.Down, c.HasExp, c.Exp, c.HasCas, c.Cas, c.Flags = true, true, 77, true, 39, 9
			becomes(t, "made, whatever else is told", among(), c, behind(51, among(y)), made)
		}
		c := with(counting(3, false), func(c *api.Command) { c.Vivify, c.Vive, c.Init = true, p.vive, 70 })
		counts(t, "there", held, c, "8", 8)
	}
}

// Most is reached just so, and passed by one byte.
func TestMathMost(t *testing.T) {
	for _, p := range []struct {
		value string
		delta uint64
		down  bool
		want  string
		n     uint64
	}{
		{"5", 3, false, "8", 8}, {"9", 1, false, "10", 10}, {"99", 1, false, "100", 100}, {"100", 1, true, "99", 99},
		{"0000000005", 1, false, "6", 6}, {top, 1, false, "0", 0}, {"0", math.MaxUint64, false, top, math.MaxUint64},
	} {
		x := but(held, func(x *api.Item) { x.Value = p.value })
		y := but(held, func(x *api.Item) { x.Value, x.Cas = p.want, 51 })
		c, most := counting(p.delta, p.down), 1+len(p.want)
		for _, above := range []int{0, 1, 1000} {
			step{"not above most", among(x), now, c, most + above, behind(51, among(y)), api.Answer{Status: api.Counted, Item: y, Number: p.n}}.check(t)
		}
		c.HasExp, c.Exp = true, 5
		for _, few := range []int{most - 1, 0, -1, math.MinInt} {
			step{"above most", among(x), now, c, few, among(x), api.Answer{Status: api.TooLarge}}.check(t)
		}
		c.HasCas, c.Cas = true, 39
		step{"another token, ahead of too large", among(x), now, c, 0, among(x), api.Answer{Status: api.Exists}}.check(t)

		made := with(command(api.OpMath), func(c *api.Command) { c.Vivify, c.Init = true, p.n })
		z := api.Item{Key: "k", Value: p.want, Cas: 51}
		step{"made, not above most", among(), now, made, most, behind(51, among(z)), api.Answer{Status: api.Counted, Item: z, Number: p.n}}.check(t)
		for _, few := range []int{most - 1, 0, -1, math.MinInt} {
			step{"made, above most", among(), now, made, few, among(), api.Answer{Status: api.TooLarge}}.check(t)
		}
	}
}

// What the fields say that a count has no use for does not matter.
func TestMathWithoutUse(t *testing.T) {
	c := with(counting(3, false), func(c *api.Command) {
		c.Mode, c.Value, c.Flags, c.Exp, c.Cas, c.Init, c.Vive, c.Recache, c.Invalidate = api.Append, "9", 4, 6, 39, 8, 70, far, true
	})
	counts(t, "without use", held, c, "8", 8)
	stays(t, "without use, not there", among(), c, api.NotFound)
}
