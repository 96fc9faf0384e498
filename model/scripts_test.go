package model_test

import (
	"math"
	"math/rand"
	"strings"
	"testing"

	"ambry/api"
	"ambry/model"
)

// twin is a state that Apply goes on with, held against the chapter's words at each call.
type twin struct {
	t    *testing.T
	s    api.State
	now  int64
	most int
}

func (w *twin) do(c api.Command) api.Answer {
	w.t.Helper()
	want, wantAnswer := told(w.s, w.now, c, w.most)
	step{"script", w.s, w.now, c, w.most, want, wantAnswer}.check(w.t)
	if w.t.Failed() {
		w.t.FailNow()
	}
	w.s = want
	return wantAnswer
}

// Each command of many forms, of each kind of item, held against the chapter's words.
func TestAllForms(t *testing.T) {
	for _, value := range []string{"5", "x", top} {
		for marks := range 4 {
			for _, exp := range []int64{0, now, now + 1, now + 100} {
				x := but(held, func(x *api.Item) { x.Value, x.Exp, x.Stale, x.Won = value, exp, marks&1 != 0, marks&2 != 0 })
				for _, c := range all() {
					for _, most := range []int{plenty, 3} {
						w := &twin{t, among(x), now, most}
						w.do(c)
						w.do(getting(-1))
					}
				}
			}
		}
	}
}

// short are commands of two keys, for scripts of all of them.
func short() []api.Command {
	l := []api.Command{
		storing(api.Set, "5"), storing(api.Add, "7"), storing(api.Replace, ""), storing(api.Append, "1"), storing(api.Prepend, "x"),
		with(storing(api.Set, "9"), func(c *api.Command) { c.Exp = 2 }),
		with(storing(api.Set, "3"), func(c *api.Command) { c.HasCas, c.Cas = true, 1 }),
		with(storing(api.Append, "3"), func(c *api.Command) { c.HasCas, c.Cas, c.Invalidate = true, 1, true }),
		getting(-1), getting(2), with(getting(-1), func(c *api.Command) { c.HasExp, c.Exp = true, 1 }),
		with(getting(5), func(c *api.Command) { c.Vivify, c.Vive = true, 2 }),
		counting(3, false), counting(6, true), with(counting(1, false), func(c *api.Command) { c.Vivify, c.Init, c.HasExp, c.Exp = true, 99, true, 3 }),
		with(command(api.OpTouch), func(c *api.Command) { c.Exp = 2 }), with(command(api.OpTouch), func(c *api.Command) { c.Exp = -1 }),
		command(api.OpDelete), with(command(api.OpDelete), func(c *api.Command) { c.Invalidate = true }),
		with(command(api.OpDelete), func(c *api.Command) { c.HasCas, c.Cas = true, 2 }),
		command(api.OpLook), command(api.OpFlush), {Op: api.OpFlush, Exp: 2},
		with(storing(api.Set, "8"), func(c *api.Command) { c.Key = "j" }), with(command(api.OpDelete), func(c *api.Command) { c.Key = "j" }),
	}
	return l
}

// All scripts of three commands, one a second, and a get behind them.
func TestAllScripts(t *testing.T) {
	l := short()
	for _, first := range l {
		for _, second := range l {
			for _, third := range l {
				w := &twin{t, api.State{}, now, 100}
				for _, c := range []api.Command{first, second, third, getting(-1)} {
					w.do(c)
					w.now++
				}
			}
		}
	}
}

// random is any command of a few keys, most of them ordinary ones.
func random(r *rand.Rand, s api.State) api.Command {
	values := []string{"", "5", "17", "x", top, "00000000000000000009", "a value", strings.Repeat("v", 30)}
	seconds := []int64{0, 0, 0, -1, 1, 2, 3, 5, 10, month, month + 1, far, -far}
	pick := func() int64 { return seconds[r.Intn(len(seconds))] }
	yes := func(of int) bool { return r.Intn(of) == 0 }
	c := api.Command{
		Op: 1 + r.Intn(7), Mode: r.Intn(5), Key: string([]byte{"abcdefgh"[r.Intn(8)]}), Value: values[r.Intn(len(values))],
		Flags: r.Uint32(), Exp: pick(), HasExp: yes(3), Cas: s.Cas - uint64(r.Intn(8)), HasCas: yes(3), Delta: uint64(r.Intn(20)), Init: r.Uint64(),
		Down: yes(2), Vivify: yes(2), Vive: pick(), Recache: pick() - 1, Invalidate: yes(2),
	}
	if c.Recache < -far {
		c.Recache = -1
	}
	if c.Op == api.OpFlush && !yes(6) {
		c.Op = api.OpStore
	}
	if yes(60) {
		c.Op, c.Mode, c.Vive = r.Intn(10)-1, r.Intn(7)-1, far+int64(r.Intn(2))
	}
	if len(s.Items) > 0 && yes(2) {
		x := s.Items[r.Intn(len(s.Items))]
		c.Key, c.Cas = x.Key, x.Cas-uint64(r.Intn(3))+1
	}
	return c
}

// Long scripts of any commands, held step by step against the chapter's words; the states stay right.
func TestLongScripts(t *testing.T) {
	seen := map[[2]int]int{}
	for seed := range int64(150) {
		r := rand.New(rand.NewSource(seed))
		w := &twin{t, api.State{Cas: uint64(r.Intn(100)) - 50}, []int64{1, now, month, far - 200}[seed%4], []int{plenty, 30, 21, 5}[r.Intn(4)]}
		for range 300 {
			c := random(r, w.s)
			before := w.s
			a := w.do(c)
			seen[[2]int{c.Op, a.Status}]++
			if !model.Right(w.s) {
				t.Fatalf("P2: Right(%s) = false, behind %s", show(w.s), show(c))
			}
			if a.Status == 0 {
				w.s = before
			}
			if yes := r.Intn(4) == 0; yes && w.now < far {
				w.now++
			}
			if key := string([]byte{"abcdefgh"[r.Intn(8)]}); r.Intn(20) == 0 {
				w.s, _ = model.Drop(w.s, key)
			}
		}
	}
	for _, want := range [][2]int{
		{1, api.Hit}, {1, api.NotFound}, {2, api.Stored}, {2, api.NotStored}, {2, api.Exists}, {2, api.NotFound}, {2, api.TooLarge},
		{3, api.Counted}, {3, api.NotFound}, {3, api.Exists}, {3, api.NotNumber}, {3, api.TooLarge}, {4, api.Touched}, {4, api.NotFound},
		{5, api.Deleted}, {5, api.NotFound}, {5, api.Exists}, {6, api.Flushed}, {7, api.Hit}, {7, api.NotFound}, {0, 0},
	} {
		if seen[want] == 0 {
			t.Errorf("the scripts had no %s that is answered %d", names[want[0]], want[1])
		}
	}
}

// The same script with other keys' commands between tells the same of its own key, but for the tokens.
func TestKeysApart(t *testing.T) {
	for seed := range int64(100) {
		r := rand.New(rand.NewSource(seed))
		alone, mixed := api.State{}, api.State{}
		at := int64(now)
		for range 200 {
			c := random(r, alone)
			if c.Op == api.OpFlush || c.HasCas || !isTaken(at, c) {
				continue
			}
			out, b := apply(t, mixed, at, c, 40)
			mixed = out
			if c.Key == "d" {
				var a api.Answer
				alone, a = apply(t, alone, at, c, 40)
				a.Item.Cas, b.Item.Cas = 0, 0
				if a != b {
					t.Fatalf("P1: %s is answered %s among others; alone %s", show(c), show(b), show(a))
				}
			}
			at += int64(r.Intn(2))
		}
	}
}

// isTaken tells whether the command may be.
func isTaken(at int64, c api.Command) bool {
	_, a := model.Apply(api.State{}, at, c, math.MaxInt)
	return a.Status != 0
}
