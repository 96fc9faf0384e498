package model_test

import (
	"fmt"
	"math"
	"slices"
	"strconv"
	"strings"
	"testing"

	"ambry/api"
	"ambry/model"
)

const (
	now    = 1000000
	plenty = 1 << 20 // bytes: more than any item of these tests has
	last   = math.MaxUint64
)

// names are those of the commands.
var names = []string{"none", "get", "store", "math", "touch", "delete", "flush", "look"}

// ops are all of them.
var ops = []int{api.OpGet, api.OpStore, api.OpMath, api.OpTouch, api.OpDelete, api.OpFlush, api.OpLook}

// modes are all of OpStore.
var modes = []int{api.Set, api.Add, api.Replace, api.Append, api.Prepend}

// held is an ordinary item, of the key k, with all that one may have.
var held = api.Item{Key: "k", Flags: 7, Value: "5", Exp: now + 100, Cas: 40, Last: 3}

// among is a state whose last token is 50, with one item ahead of the keys c to x and one behind them.
func among(l ...api.Item) api.State {
	l = append([]api.Item{{Key: "b", Value: "ahead", Cas: 48, Won: true, Stale: true, Last: 5}}, l...)
	l = append(l, api.Item{Key: "y", Value: "17", Flags: 3, Exp: far * 2, Cas: 49})
	return api.State{Items: l, Cas: 50}
}

// behind is the state with another last token.
func behind(cas uint64, s api.State) api.State {
	s.Cas = cas
	return s
}

// but is the item, with a change.
func but(x api.Item, change func(x *api.Item)) api.Item {
	change(&x)
	return x
}

// command is one of the Op, of the key k, which tells no Recache.
func command(op int) api.Command { return api.Command{Op: op, Key: "k", Recache: -1} }

// with is the command, with a change.
func with(c api.Command, change func(c *api.Command)) api.Command {
	change(&c)
	return c
}

func storing(mode int, value string) api.Command {
	return with(command(api.OpStore), func(c *api.Command) { c.Mode, c.Value = mode, value })
}

func same(a, b api.State) bool {
	return slices.Equal(a.Items, b.Items) && a.Cas == b.Cas && a.Flush == b.Flush
}

// show tells anything in not too many letters, all of which can be read.
func show(a any) string {
	s := fmt.Sprintf("%+v", a)
	if len(s) > 600 {
		s = s[:600] + " .."
	}
	return strings.Trim(strconv.Quote(s), `"`)
}

// spoil writes over a list and the room behind it.
func spoil(l []api.Item) {
	l = l[:cap(l)]
	for i := range l {
		l[i] = api.Item{Key: "spoilt", Cas: uint64(i), Won: true}
	}
}

// lent calls f with the state's items in a list that has room behind it: these are to stay as they were, and to be no memory of what f answers, which is the same each time (R1, R4).
func lent(t *testing.T, s api.State, f func(s api.State) (api.State, string)) {
	t.Helper()
	l := make([]api.Item, len(s.Items), len(s.Items)+3)
	copy(l, s.Items)
	spoil(l[len(l):])
	was := slices.Clone(l[:cap(l)])
	s.Items = l

	out, told := f(s)
	if !slices.Equal(l[:cap(l)], was) {
		t.Fatalf("R1: what was handed in is %s; it was %s", show(l[:cap(l)]), show(was))
	}
	first := slices.Clone(out.Items)
	spoil(l)
	if !slices.Equal(out.Items, first) {
		t.Fatalf("R1: what came out changes with what was handed in: %s; it was %s", show(out.Items), show(first))
	}
	copy(l[:cap(l)], was)
	spoil(out.Items)
	if !slices.Equal(l[:cap(l)], was) {
		t.Fatalf("R1: what was handed in changes with what came out: %s; it was %s", show(l[:cap(l)]), show(was))
	}
	again, toldAgain := f(s)
	if !slices.Equal(again.Items, first) || again.Cas != out.Cas || again.Flush != out.Flush || told != toldAgain {
		t.Fatalf("R4: %s, %s; at first it was %s, %s", show(again), toldAgain, show(first), told)
	}
}

// apply is Apply, lent its state.
func apply(t *testing.T, s api.State, now int64, c api.Command, most int) (api.State, api.Answer) {
	t.Helper()
	var out api.State
	var a api.Answer
	lent(t, s, func(s api.State) (api.State, string) {
		out, a = model.Apply(s, now, c, most)
		return out, show(a)
	})
	return out, a
}

// step is one call of Apply, and what is to come of it.
type step struct {
	why  string
	s    api.State
	now  int64
	c    api.Command
	most int
	want api.State
	a    api.Answer
}

func (p step) check(t *testing.T) {
	t.Helper()
	out, a := apply(t, p.s, p.now, p.c, p.most)
	if !same(out, p.want) {
		t.Fatalf("P1: %s: %s at %d, most %d, of %s\nis the state %s\n        want %s", p.why, show(p.c), p.now, p.most, show(p.s), show(out), show(p.want))
	}
	if a != p.a {
		t.Fatalf("P1: %s: %s at %d, most %d, of %s\nis answered %s\n       want %s", p.why, show(p.c), p.now, p.most, show(p.s), show(a), show(p.a))
	}
}

// becomes tells that the command, at now and with room for all, turns one state into another.
func becomes(t *testing.T, why string, s api.State, c api.Command, want api.State, a api.Answer) {
	t.Helper()
	step{why, s, now, c, plenty, want, a}.check(t)
}

// stays tells that the command leaves the state as it is, and tells its status alone.
func stays(t *testing.T, why string, s api.State, c api.Command, status int) {
	t.Helper()
	becomes(t, why, s, c, s, api.Answer{Status: status})
}

func TestExample(t *testing.T) {
	k := api.Item{Key: "k", Value: "5", Exp: 110, Cas: 1}
	k8 := api.Item{Key: "k", Value: "8", Exp: 110, Cas: 2}
	k9 := api.Item{Key: "k", Value: "8", Exp: 110, Cas: 2, Last: 109}
	fresh := api.Item{Key: "k", Value: "v", Cas: 3}
	stale := api.Item{Key: "k", Value: "v", Cas: 4, Stale: true}
	won := api.Item{Key: "k", Value: "v", Cas: 4, Stale: true, Won: true, Last: 111}
	wonAgain := but(won, func(x *api.Item) { x.Last = 112 })
	of := func(cas uint64, l ...api.Item) api.State { return api.State{Items: l, Cas: cas} }
	set := with(storing(api.Set, "5"), func(c *api.Command) { c.Exp = 10 })
	add := with(command(api.OpMath), func(c *api.Command) { c.Delta = 3 })
	invalidate := with(command(api.OpDelete), func(c *api.Command) { c.Invalidate = true })
	for _, p := range []step{
		{"set", of(0), 100, set, 100, of(1, k), api.Answer{Status: api.Stored, Item: k}},
		{"math", of(1, k), 105, add, 100, of(2, k8), api.Answer{Status: api.Counted, Item: k8, Number: 8}},
		{"get", of(2, k8), 109, command(api.OpGet), 100, of(2, k9), api.Answer{Status: api.Hit, Item: k9}},
		{"get", of(2, k9), 110, command(api.OpGet), 100, of(2), api.Answer{Status: api.NotFound}},
		{"set", of(2), 110, storing(api.Set, "v"), 100, of(3, fresh), api.Answer{Status: api.Stored, Item: fresh}},
		{"delete", of(3, fresh), 110, invalidate, 100, of(4, stale), api.Answer{Status: api.Deleted, Item: stale}},
		{"get", of(4, stale), 111, command(api.OpGet), 100, of(4, won), api.Answer{Status: api.Hit, Item: won, X: true, W: true}},
		{"get", of(4, won), 112, command(api.OpGet), 100, of(4, wonAgain), api.Answer{Status: api.Hit, Item: wonAgain, X: true, Z: true}},
	} {
		p.check(t)
	}
}

// The statuses, the commands and the modes have the numbers that the document gives them.
func TestNumbersOfStatuses(t *testing.T) {
	s := among(held)
	for _, p := range []struct {
		op, mode, status int
		key              string
	}{
		{1, 0, 1, "k"}, {1, 0, 5, "c"}, {2, 0, 2, "k"}, {2, 1, 3, "k"}, {2, 1, 2, "c"}, {2, 2, 3, "c"}, {2, 3, 3, "c"}, {2, 4, 3, "c"},
		{3, 0, 6, "k"}, {3, 0, 5, "c"}, {3, 0, 7, "b"}, {4, 0, 8, "k"}, {4, 0, 5, "c"}, {5, 0, 9, "k"}, {5, 0, 5, "c"}, {6, 0, 10, "k"},
		{7, 0, 1, "k"}, {7, 0, 5, "c"},
	} {
		c := api.Command{Op: p.op, Mode: p.mode, Key: p.key, Recache: -1}
		if _, a := apply(t, s, now, c, plenty); a.Status != p.status {
			t.Errorf("P1: %s of %s, mode %d, is answered %d; want %d", names[p.op], p.key, p.mode, a.Status, p.status)
		}
	}
}

// Items stay in the order of their keys, wherever a new one comes.
func TestOrder(t *testing.T) {
	keys := []string{"!", "A", "Z", "a", "aa", "ab", "b", "b!", "c", "k", "kk", "y", "z", "z\x80", "\u00e9", "\u3000", "\xff", "\xff\xff"}
	for _, made := range []api.Command{
		storing(api.Set, "v"), storing(api.Add, "v"),
		{Op: api.OpGet, Vivify: true, Recache: -1}, {Op: api.OpMath, Vivify: true, Init: 5, Recache: -1},
	} {
		for first := range keys {
			var s api.State
			for i := range keys {
				// Another order for each first one: 5 has no divisor in common with 18.
				made.Key = keys[(first+5*i)%len(keys)]
				s, _ = apply(t, s, now, made, plenty)
				if !slices.IsSortedFunc(s.Items, func(x, y api.Item) int { return strings.Compare(x.Key, y.Key) }) || len(s.Items) != i+1 {
					t.Fatalf("P1: behind %s of %q the state is %s", names[made.Op], made.Key, show(s))
				}
			}
			for i, x := range s.Items {
				if x.Key != keys[i] {
					t.Fatalf("P1: item %d is %q; want %q", i, x.Key, keys[i])
				}
			}
		}
	}
}

// A command of one key leaves the items of all others as they were.
func TestOthersStay(t *testing.T) {
	others := []api.Item{
		{Key: "a", Value: "1", Exp: now + 1, Cas: 50, Won: true}, {Key: "c", Value: "2", Stale: true, Last: 9}, {Key: "k0", Value: "3", Cas: 40},
		{Key: "x", Value: "4", Exp: 3 * far, Stale: true, Won: true, Flags: math.MaxUint32, Cas: last, Last: math.MaxInt64},
	}
	for _, c := range all() {
		if c.Op == api.OpFlush {
			continue
		}
		for _, s := range []api.State{{Items: others}, {Items: slices.Insert(slices.Clone(others), 2, held)}} {
			out, _ := apply(t, s, now, c, plenty)
			rest := slices.DeleteFunc(slices.Clone(out.Items), func(x api.Item) bool { return x.Key == "k" })
			if !slices.Equal(rest, others) {
				t.Errorf("P1: %s leaves the others as %s; want %s", show(c), show(rest), show(others))
			}
		}
	}
}

// all are commands of the key k in many forms: each Op, each Mode, and what else a command may tell.
func all() []api.Command {
	var l []api.Command
	for _, op := range ops {
		for _, mode := range modes {
			for bits := range 64 {
				c := command(op)
				c.Mode, c.Value, c.Flags, c.Delta, c.Init, c.Cas = mode, "12", 9, 3, 70, 39
				c.HasExp, c.HasCas, c.Down = bits&1 != 0, bits&2 != 0, bits&4 != 0
				c.Vivify, c.Invalidate = bits&8 != 0, bits&16 != 0
				c.Exp, c.Vive = 60, 80
				if bits&32 != 0 {
					c.Cas, c.Recache, c.Exp, c.Vive = 40, 101, -1, -1
				}
				l = append(l, c)
			}
		}
	}
	return l
}
