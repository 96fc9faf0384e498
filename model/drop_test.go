package model_test

import (
	"math"
	"slices"
	"strings"
	"testing"

	"ambry/api"
	"ambry/model"
)

// drop is Drop, lent its state.
func drop(t *testing.T, s api.State, key string) (api.State, bool) {
	t.Helper()
	var out api.State
	var was bool
	lent(t, s, func(s api.State) (api.State, string) {
		out, was = model.Drop(s, key)
		return out, show(was)
	})
	return out, was
}

// right is Right, which is to leave its state as it was.
func right(t *testing.T, s api.State) bool {
	t.Helper()
	was := slices.Clone(s.Items)
	is := model.Right(s)
	if !slices.Equal(s.Items, was) || model.Right(s) != is {
		t.Errorf("R1, R4: Right of %s left it as %s", show(was), show(s.Items))
	}
	return is
}

func TestDrop(t *testing.T) {
	keys := []string{"a", "aa", "b", "k", "y", "\xff"}
	whole := api.State{Cas: last, Flush: 5}
	for i, key := range keys {
		// Some of them are gone at most moments: that does not matter here.
		whole.Items = append(whole.Items, api.Item{Key: key, Value: key, Exp: int64(i % 3), Cas: uint64(i), Stale: i%2 == 0})
	}
	for n := range len(keys) + 1 {
		for i, key := range keys {
			s := whole
			s.Items = whole.Items[:n]
			want, there := s, i < n
			if there {
				want.Items = slices.Delete(slices.Clone(s.Items), i, i+1)
			}
			if out, was := drop(t, s, key); !same(out, want) || was != there {
				t.Errorf("P2: Drop of %q from the first %d is %s, %v; want %s, %v", key, n, show(out), was, show(want), there)
			}
		}
		for _, key := range append(noKeys, "A", "a\x00", "aaa", "ab", "c", "K", "kk", "z", "\xff\xff", "!") {
			s := whole
			s.Items = whole.Items[:n]
			if out, was := drop(t, s, key); !same(out, s) || was {
				t.Errorf("P2: Drop of %.40q, which is not there, is %s, %v; want %s, false", key, show(out), was, show(s))
			}
		}
	}
}

func TestDropKeepsTheRest(t *testing.T) {
	for _, s := range []api.State{{Items: []api.Item{held}}, {Items: []api.Item{held}, Cas: 7}, {Items: []api.Item{held}, Flush: far}, {Items: []api.Item{held}, Cas: last, Flush: 1}} {
		out, was := drop(t, s, "k")
		if !was || len(out.Items) != 0 || out.Cas != s.Cas || out.Flush != s.Flush {
			t.Errorf("P2: Drop of k from %s is %s, %v", show(s), show(out), was)
		}
		again, was := drop(t, out, "k")
		if was || !same(again, out) {
			t.Errorf("P2: Drop of k, which was dropped, from %s is %s, %v", show(out), show(again), was)
		}
	}
}

func TestRight(t *testing.T) {
	of := func(keys ...string) api.State {
		var s api.State
		for _, key := range keys {
			s.Items = append(s.Items, api.Item{Key: key})
		}
		return s
	}
	longest := strings.Repeat("k", 250)
	full := api.Item{Key: longest, Flags: math.MaxUint32, Value: strings.Repeat("v", maxValue), Exp: math.MaxInt64, Cas: last, Last: math.MaxInt64, Stale: true, Won: true}
	for _, s := range []api.State{
		{}, {Items: []api.Item{}}, {Cas: last}, {Flush: 1}, {Flush: far}, {Flush: math.MaxInt64}, among(), among(held), behind(0, among(held)),
		of("a"), of("a", "b"), of("a", "aa", "ab", "b"), of("A", "a"), of("9", "A"), of("Z", "a", "z", "\u00e9"), of("\x80", "\xff", "\xff\xff"),
		of(longest[1:], longest, "l"), of("!", "~", "\x80"), {Items: []api.Item{full}}, {Items: []api.Item{{Key: "k", Value: full.Value[1:]}, full}},
		{Items: []api.Item{{Key: "a", Exp: 1}, {Key: "b", Last: 1}}},
	} {
		if !right(t, s) {
			t.Errorf("P2: Right(%s) = false", show(s))
		}
	}
	for _, s := range []api.State{
		of("a", "a"), of("b", "a"), of("a", "c", "b"), of("b", "a", "c"), of("a", "b", "b"), of("a", "a", "b"), of("a", "b", "c", "c"),
		of("a", "b", "a"), of("aa", "a"), of("a", "A"), of("A", "9"), of("\xff", "\x80"), of("\u00e9", "z"), of(longest, longest), of(longest, longest[1:]),
		of("10", "9", "11"), {Flush: -1}, {Flush: math.MinInt64}, {Flush: -far, Cas: 5}, {Items: []api.Item{held}, Flush: -1},
	} {
		if right(t, s) {
			t.Errorf("P2: Right(%s) = true", show(s))
		}
	}
}

// One item that is not right, at each place, makes the state not right.
func TestRightOfEachItem(t *testing.T) {
	large := strings.Repeat("v", maxValue)
	for i := range 4 {
		s := api.State{Items: []api.Item{{Key: "a"}, {Key: "b"}, {Key: "c"}, {Key: "d"}}}
		holds := func(change func(x *api.Item), want bool) {
			t.Helper()
			changed := api.State{Items: slices.Clone(s.Items)}
			change(&changed.Items[i])
			if is := right(t, changed); is != want {
				t.Errorf("P2: Right(%s), item %d having changed, = %v; want %v", show(changed), i, is, want)
			}
		}
		holds(func(x *api.Item) {}, true)
		holds(func(x *api.Item) { x.Value = large }, true)
		holds(func(x *api.Item) { x.Value = large + "v" }, false)
		holds(func(x *api.Item) { x.Value = large + large }, false)
		for _, n := range []int64{-1, -2, -far, math.MinInt64} {
			holds(func(x *api.Item) { x.Exp = n }, false)
			holds(func(x *api.Item) { x.Last = n }, false)
			holds(func(x *api.Item) { x.Exp, x.Last = n, n }, false)
			holds(func(x *api.Item) { x.Exp, x.Last = n, math.MaxInt64 }, false)
		}
		for _, n := range []int64{0, 1, math.MaxInt64} {
			holds(func(x *api.Item) { x.Exp, x.Last = n, n }, true)
		}
		// Behind its own letter the key still stands where it stood.
		for b := range 256 {
			holds(func(x *api.Item) { x.Key += string([]byte{byte(b)}) }, b >= 33 && b != 127)
		}
		holds(func(x *api.Item) { x.Key += strings.Repeat("k", 249) }, true)
		holds(func(x *api.Item) { x.Key += strings.Repeat("k", 250) }, false)
		holds(func(x *api.Item) { x.Key = "" }, false)
	}
}
