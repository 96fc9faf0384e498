package model_test

import (
	"testing"

	"ambry/api"
)

// Each command that gives a token gives the last one and 1, and behind 18446744073709551615 comes 0.
func TestTokens(t *testing.T) {
	there, missing := []api.Item{held}, []api.Item(nil)
	for _, p := range []struct {
		why string
		l   []api.Item
		c   api.Command
	}{
		{"set", missing, storing(api.Set, "v")}, {"set anew", there, storing(api.Set, "v")}, {"add", missing, storing(api.Add, "v")},
		{"replace", there, storing(api.Replace, "v")}, {"append", there, storing(api.Append, "v")}, {"prepend", there, storing(api.Prepend, "v")},
		{"append nothing", there, storing(api.Append, "")}, {"count up", there, counting(1, false)}, {"count down", there, counting(1, true)},
		{"count by 0", there, counting(0, false)},
		{"count, made", missing, with(counting(1, false), func(c *api.Command) { c.Vivify = true })},
		{"get, made", missing, with(command(api.OpGet), func(c *api.Command) { c.Vivify = true })},
		{"make stale", there, with(command(api.OpDelete), func(c *api.Command) { c.Invalidate = true })},
	} {
		for _, cas := range []struct{ last, next uint64 }{
			{0, 1}, {1, 2}, {50, 51}, {255, 256}, {1<<32 - 1, 1 << 32}, {1<<63 - 1, 1 << 63}, {last - 1, last}, {last, 0},
		} {
			s := behind(cas.last, among(p.l...))
			out, a := apply(t, s, now, p.c, plenty)
			if out.Cas != cas.next || a.Item.Cas != cas.next || len(out.Items) != 3 || out.Items[1] != a.Item {
				t.Errorf("P1: %s behind %d: the state is %s, and the answer %s; want %d", p.why, cas.last, show(out), show(a), cas.next)
			}
			if again, b := apply(t, out, now, storing(api.Set, "w"), plenty); again.Cas != cas.next+1 || b.Item.Cas != cas.next+1 {
				t.Errorf("P1: a set behind %d has %d; want %d", cas.next, b.Item.Cas, cas.next+1)
			}
		}
	}
}

// Commands that give no token leave the last one, and the item's.
func TestNoTokens(t *testing.T) {
	for _, p := range []struct {
		why   string
		there bool
		c     api.Command
		items int
	}{
		{"get", true, getting(-1), 3}, {"get that wins", true, getting(far), 3}, {"get", false, getting(-1), 2},
		{"get and set the end", true, with(getting(-1), func(c *api.Command) { c.HasExp, c.Exp, c.Vivify = true, 5, true }), 3},
		{"touch", true, command(api.OpTouch), 3}, {"touch", false, command(api.OpTouch), 2},
		{"delete", true, command(api.OpDelete), 2}, {"delete", false, command(api.OpDelete), 2},
		{"look", true, command(api.OpLook), 3}, {"look", false, command(api.OpLook), 2},
		{"flush", true, command(api.OpFlush), 0}, {"flush to come", true, api.Command{Op: api.OpFlush, Exp: 5}, 3},
		{"add", true, storing(api.Add, "v"), 3}, {"replace", false, storing(api.Replace, "v"), 2}, {"append", false, storing(api.Append, "v"), 2},
		{"count", false, counting(1, false), 2},
	} {
		for _, cas := range []uint64{0, 50, last} {
			s := behind(cas, among())
			if p.there {
				s = behind(cas, among(held))
			}
			out, _ := apply(t, s, now, p.c, plenty)
			if out.Cas != cas || len(out.Items) != p.items || p.items == 3 && out.Items[1].Cas != held.Cas {
				t.Errorf("P1: %s behind %d: the state is %s", p.why, cas, show(out))
			}
		}
	}
}

// Where a command is refused, the state is as it was, and the answer tells its status alone.
func TestRefusalsChangeNothing(t *testing.T) {
	count := map[int]int{}
	for _, s := range []api.State{among(), among(held), among(but(held, func(x *api.Item) { x.Value, x.Stale = "x", true })), behind(last, among(held))} {
		for _, c := range all() {
			for _, most := range []int{plenty, 2, 1} {
				out, a := apply(t, s, now, c, most)
				switch a.Status {
				case api.NotFound, api.NotStored, api.Exists, api.TooLarge, api.NotNumber:
					count[a.Status]++
					if !same(out, s) || a != (api.Answer{Status: a.Status}) {
						t.Errorf("P1: %s of %s is the state %s, and answered %s", show(c), show(s), show(out), show(a))
					}
				}
			}
		}
	}
	if len(count) != 5 {
		t.Errorf("only these were told: %v", count)
	}
}

// Each field of an answer that is not said is its zero value.
func TestAnswersFields(t *testing.T) {
	for _, s := range []api.State{among(), among(held), among(but(held, func(x *api.Item) { x.Stale = true })), among(but(held, func(x *api.Item) { x.Won = true }))} {
		for _, c := range all() {
			_, a := apply(t, s, now, c, plenty)
			if c.Op != api.OpGet && (a.W || a.X || a.Z) {
				t.Errorf("P1: %s is answered %s, which tells of a win", show(c), show(a))
			}
			if a.Status != api.Counted && a.Number != 0 {
				t.Errorf("P1: %s is answered %s, which tells a number", show(c), show(a))
			}
			bare := a.Status == api.Flushed || a.Status == api.Deleted && !c.Invalidate
			switch a.Status {
			case api.NotFound, api.NotStored, api.Exists, api.TooLarge, api.NotNumber:
				bare = true
			}
			if bare != (a.Item == api.Item{}) {
				t.Errorf("P1: %s is answered %s", show(c), show(a))
			}
		}
	}
}
