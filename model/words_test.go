package model_test

import (
	"maps"
	"math/big"
	"slices"

	"ambry/api"
)

const (
	far      = 1 << 40
	month    = 2592000
	maxValue = 65536
)

// told is what the chapter says of Apply, sentence by sentence, with a map of the items instead of a list.
func told(s api.State, now int64, c api.Command, most int) (api.State, api.Answer) {
	if now < 1 || now > far || !mayBe(c) {
		return api.State{}, api.Answer{}
	}
	w := &plain{map[string]api.Item{}, s.Cas, s.Flush, now, c, most}
	if s.Flush != 0 && s.Flush <= now {
		w.flush = 0
	} else {
		for _, x := range s.Items {
			if !(x.Exp != 0 && x.Exp <= now) {
				w.items[x.Key] = x
			}
		}
	}
	var a api.Answer
	switch c.Op {
	case 1:
		a = w.get()
	case 2:
		a = w.store()
	case 3:
		a = w.math()
	case 4:
		a = w.touch()
	case 5:
		a = w.delete()
	case 6:
		a = w.flushes()
	case 7:
		a = w.look()
	}
	out := api.State{Cas: w.cas, Flush: w.flush}
	for _, key := range slices.Sorted(maps.Keys(w.items)) {
		out.Items = append(out.Items, w.items[key])
	}
	return out, a
}

// mayBe is what the chapter calls so.
func mayBe(c api.Command) bool {
	for _, e := range []int64{c.Exp, c.Vive, c.Recache} {
		if e < -far || e > far {
			return false
		}
	}
	switch {
	case c.Op < 1 || c.Op > 7:
		return false
	case c.Op != 6 && !isKey(c.Key):
		return false
	case c.Mode < 0 || c.Mode > 4:
		return false
	}
	return len(c.Value) <= 65536
}

func isKey(s string) bool {
	for _, b := range []byte(s) {
		if b < 33 || b == 127 {
			return false
		}
	}
	return len(s) >= 1 && len(s) <= 250
}

// number is the one that the text says, if it says one.
func number(s string) (*big.Int, bool) {
	if len(s) < 1 || len(s) > 20 {
		return nil, false
	}
	n := new(big.Int)
	for _, b := range []byte(s) {
		if b < '0' || b > '9' {
			return nil, false
		}
		n.Add(n.Mul(n, big.NewInt(10)), big.NewInt(int64(b-'0')))
	}
	return n, n.IsUint64()
}

// plain is a state, and what it is asked for.
type plain struct {
	items map[string]api.Item
	cas   uint64
	flush int64
	now   int64
	c     api.Command
	most  int
}

func (w *plain) moment(e int64) int64 {
	if e == 0 {
		return 0
	}
	if e < 0 {
		return w.now
	}
	if e <= month {
		return w.now + e
	}
	return e
}

func (w *plain) token() uint64 {
	if w.cas == 18446744073709551615 {
		w.cas = 0
	} else {
		w.cas = w.cas + 1
	}
	return w.cas
}

func only(status int) api.Answer { return api.Answer{Status: status} }

func (w *plain) get() api.Answer {
	x, there := w.items[w.c.Key]
	if !there {
		if !w.c.Vivify {
			return only(5)
		}
		x = api.Item{Key: w.c.Key, Cas: w.token(), Won: true, Exp: w.moment(w.c.Vive)}
		w.items[w.c.Key] = x
		return api.Answer{Status: 1, Item: x, W: true}
	}
	a := api.Answer{Status: 1}
	if x.Stale {
		a.X = true
	}
	if x.Stale || w.c.Recache >= 0 && x.Exp != 0 && x.Exp-w.now < w.c.Recache {
		if !x.Won {
			a.W = true
			x.Won = true
		} else {
			a.Z = true
		}
	} else if x.Won {
		a.Z = true
	}
	if w.c.HasExp {
		x.Exp = w.moment(w.c.Exp)
	}
	x.Last = w.now
	w.items[w.c.Key] = x
	a.Item = x
	return a
}

func (w *plain) store() api.Answer {
	c := w.c
	x, there := w.items[c.Key]
	if c.Mode == 1 && there {
		return only(3)
	}
	if (c.Mode == 2 || c.Mode == 3 || c.Mode == 4) && !there {
		return only(3)
	}
	stale := false
	if c.HasCas {
		if !there {
			return only(5)
		}
		if x.Cas != c.Cas {
			if !(c.Invalidate && c.Cas < x.Cas) {
				return only(4)
			}
			stale = true
		}
	}
	if c.Mode <= 2 {
		if len(c.Key)+len(c.Value) > w.most {
			return only(11)
		}
		x = api.Item{Key: c.Key, Flags: c.Flags, Value: c.Value, Exp: w.moment(c.Exp)}
	} else {
		if len(c.Key)+len(x.Value)+len(c.Value) > w.most {
			return only(11)
		}
		if c.Mode == 3 {
			x.Value = x.Value + c.Value
		} else {
			x.Value = c.Value + x.Value
		}
		x.Won = false
	}
	x.Stale = stale
	x.Cas = w.token()
	w.items[c.Key] = x
	return api.Answer{Status: 2, Item: x}
}

func (w *plain) math() api.Answer {
	c := w.c
	x, there := w.items[c.Key]
	n := new(big.Int).SetUint64(c.Init)
	if !there {
		if !c.Vivify {
			return only(5)
		}
		x = api.Item{Key: c.Key, Exp: w.moment(c.Vive)}
	} else {
		if c.HasCas && x.Cas != c.Cas {
			return only(4)
		}
		value, ok := number(x.Value)
		if !ok {
			return only(7)
		}
		delta := new(big.Int).SetUint64(c.Delta)
		if c.Down {
			if n.Sub(value, delta); n.Sign() < 0 {
				n = big.NewInt(0)
			}
		} else {
			n.Add(value, delta)
			n.Mod(n, new(big.Int).Lsh(big.NewInt(1), 64))
		}
		if c.HasExp {
			x.Exp = w.moment(c.Exp)
		}
	}
	x.Value = n.String()
	if len(x.Key)+len(x.Value) > w.most {
		return only(11)
	}
	x.Cas = w.token()
	w.items[c.Key] = x
	return api.Answer{Status: 6, Number: n.Uint64(), Item: x}
}

func (w *plain) touch() api.Answer {
	x, there := w.items[w.c.Key]
	if !there {
		return only(5)
	}
	x.Exp = w.moment(w.c.Exp)
	w.items[w.c.Key] = x
	return api.Answer{Status: 8, Item: x}
}

func (w *plain) delete() api.Answer {
	x, there := w.items[w.c.Key]
	if !there {
		return only(5)
	}
	if w.c.HasCas && x.Cas != w.c.Cas {
		return only(4)
	}
	if !w.c.Invalidate {
		delete(w.items, w.c.Key)
		return only(9)
	}
	x.Stale = true
	x.Won = false
	x.Cas = w.token()
	if w.c.HasExp {
		x.Exp = w.moment(w.c.Exp)
	}
	w.items[w.c.Key] = x
	return api.Answer{Status: 9, Item: x}
}

func (w *plain) look() api.Answer {
	x, there := w.items[w.c.Key]
	if !there {
		return only(5)
	}
	return api.Answer{Status: 1, Item: x}
}

func (w *plain) flushes() api.Answer {
	if w.moment(w.c.Exp) > w.now {
		w.flush = w.moment(w.c.Exp)
	} else {
		w.items = map[string]api.Item{}
		w.flush = 0
	}
	return only(10)
}
