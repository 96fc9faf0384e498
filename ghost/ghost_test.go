package ghost_test

import (
	"math"
	"math/rand"
	"slices"
	"testing"

	"ambry/ghost"
)

const most64 = math.MaxUint64

// plain is a ghost by the chapter's words alone: a list of numbers, the oldest first, and how many there may be.
type plain struct {
	most int
	l    []uint64
}

func newPlain(most int) *plain {
	m := &plain{}
	m.Limit(most)
	return m
}

func (m *plain) trim() {
	for len(m.l) > m.most {
		m.l = m.l[1:]
	}
}

func (m *plain) Limit(most int) {
	m.most = most
	if most < 0 {
		m.most = 0
	}
	m.trim()
}

func (m *plain) Has(h uint64) bool { return slices.Contains(m.l, h) }

func (m *plain) Remove(h uint64) bool {
	was := m.Has(h)
	m.l = slices.DeleteFunc(slices.Clone(m.l), func(n uint64) bool { return n == h })
	return was
}

func (m *plain) Add(h uint64) {
	m.Remove(h)
	m.l = append(m.l, h)
	m.trim()
}

// twin is a ghost, beside what the chapter says of it.
type twin struct {
	t *testing.T
	g *ghost.Ghost
	m *plain
}

func newTwin(t *testing.T, most int, l ...uint64) *twin {
	t.Helper()
	g := ghost.New(most)
	if g == nil {
		t.Fatalf("K1: New(%d) is nil", most)
	}
	w := &twin{t, g, newPlain(most)}
	w.add(l...)
	return w
}

func (w *twin) add(l ...uint64) {
	w.t.Helper()
	for _, h := range l {
		w.g.Add(h)
		w.m.Add(h)
	}
}

func (w *twin) remove(h uint64) {
	w.t.Helper()
	if ok, want := w.g.Remove(h), w.m.Remove(h); ok != want {
		w.t.Fatalf("K1: Remove(%d) = %v; want %v", h, ok, want)
	}
}

func (w *twin) limit(most int) {
	w.t.Helper()
	w.g.Limit(most)
	w.m.Limit(most)
}

// same tells that the two are alike in all that they tell, of these numbers and all that are there.
func (w *twin) same(others ...uint64) {
	w.t.Helper()
	if l := w.g.All(); !slices.Equal(l, w.m.l) {
		w.t.Fatalf("K1: All() = %v; want %v", l, w.m.l)
	}
	if n := w.g.Len(); n != len(w.m.l) {
		w.t.Fatalf("K1: Len() = %d; want %d", n, len(w.m.l))
	}
	for _, h := range slices.Concat(others, w.m.l) {
		if has, want := w.g.Has(h), w.m.Has(h); has != want {
			w.t.Fatalf("K1: Has(%d) = %v; want %v", h, has, want)
		}
	}
}

// holds tells that these are the numbers, the oldest first, and that the others aren't there.
func holds(t *testing.T, g *ghost.Ghost, want []uint64, others ...uint64) {
	t.Helper()
	if l := g.All(); !slices.Equal(l, want) {
		t.Errorf("K1: All() = %v; want %v", l, want)
	}
	if n := g.Len(); n != len(want) {
		t.Errorf("K1: Len() = %d; want %d", n, len(want))
	}
	for _, h := range want {
		if !g.Has(h) {
			t.Errorf("K1: Has(%d) = false", h)
		}
	}
	for _, h := range others {
		if g.Has(h) {
			t.Errorf("K1: Has(%d) = true", h)
		}
	}
}

func TestExample(t *testing.T) {
	g := ghost.New(2)
	holds(t, g, nil, 1, 2, 3, 9)
	g.Add(1)
	g.Add(2)
	g.Add(3)
	holds(t, g, []uint64{2, 3}, 1, 9)
	g.Add(2)
	holds(t, g, []uint64{3, 2}, 1, 9)
	g.Limit(1)
	holds(t, g, []uint64{2}, 1, 3, 9)
	g.Limit(0)
	holds(t, g, nil, 1, 2, 3, 9)
	g.Add(9)
	holds(t, g, nil, 1, 2, 3, 9)
}

// Fewer come than may be, just as many, and more: the newest ones are there.
func TestNew(t *testing.T) {
	for most := range 12 {
		for n := range 30 {
			g := ghost.New(most)
			var want []uint64
			for i := range n {
				g.Add(uint64(100 + i))
				if i >= n-most {
					want = append(want, uint64(100+i))
				}
			}
			holds(t, g, want, 99, uint64(100+n))
			for i := range n - most {
				if h := uint64(100 + i); g.Has(h) || g.Remove(h) {
					t.Fatalf("K1: of %d at most, %d is there behind %d others", most, h, n-1-i)
				}
			}
		}
	}
}

// Of none at most, whichever number says so, nothing is ever there.
func TestNone(t *testing.T) {
	for _, most := range []int{0, -1, -2, -7, -1 << 32, math.MinInt, math.MinInt + 1} {
		for call := range 2 {
			g := ghost.New(most)
			if g == nil {
				t.Fatalf("K1: New(%d) is nil", most)
			}
			if call == 1 {
				g = ghost.New(3)
				for h := range uint64(5) {
					g.Add(h)
				}
				g.Limit(most)
			}
			holds(t, g, nil, 0, 1, 2, 3, 4, most64)
			for _, h := range []uint64{0, 1, 1, most64, 4} {
				g.Add(h)
				holds(t, g, nil, 0, 1, 2, 3, 4, most64)
				if g.Remove(h) {
					t.Errorf("K1: of %d at most: Remove(%d) = true", most, h)
				}
			}
			g.Limit(1)
			holds(t, g, nil, 0, 1, 2, 3, 4, most64)
			g.Add(7)
			g.Add(8)
			holds(t, g, []uint64{8}, 7)
		}
	}
}

// Of one at most, the newest one is there.
func TestOne(t *testing.T) {
	g := ghost.New(1)
	for _, h := range []uint64{0, 5, 5, most64, 0, 0, 1} {
		g.Add(h)
		holds(t, g, []uint64{h}, 9, h+1, h-1)
	}
	if !g.Remove(1) || g.Remove(1) {
		t.Error("K1: Remove(1), twice, is not true and false")
	}
	holds(t, g, nil, 0, 1, 5, most64)
	g.Add(5)
	holds(t, g, []uint64{5}, 0, 1, most64)
}

// However many may be, a few numbers stay.
func TestHugeLimits(t *testing.T) {
	for _, most := range []int{1 << 31, 1 << 32, 1<<32 + 1, math.MaxInt - 1, math.MaxInt} {
		g := ghost.New(most)
		for h := range uint64(5) {
			g.Add(h)
		}
		holds(t, g, []uint64{0, 1, 2, 3, 4}, 5, most64)
		g.Limit(2)
		g.Limit(most)
		holds(t, g, []uint64{3, 4}, 0, 1, 2)
		g.Add(0)
		holds(t, g, []uint64{3, 4, 0}, 1, 2)
	}
}

// The numbers at both ends, and near the edges between kinds of numbers, are each their own.
func TestNumbers(t *testing.T) {
	l := []uint64{0, 1, 2, 1<<31 - 1, 1 << 31, 1<<32 - 1, 1 << 32, 1<<32 + 1, 1<<63 - 1, 1 << 63, 1<<63 + 1, most64 - 1, most64}
	for i := range l {
		w := newTwin(t, len(l))
		turned := slices.Concat(l[i:], l[:i])
		for _, h := range turned {
			w.same(l...)
			w.add(h)
		}
		w.same(l...)
		for _, h := range turned {
			w.remove(h)
			w.same(l...)
		}
	}
}

// The oldest one, the newest one and each between is added again, or removed, or both, of a row that is full or not.
func TestEach(t *testing.T) {
	for n := uint64(1); n <= 5; n++ {
		for free := range 2 {
			for h := range n {
				for call := range 4 {
					w := newTwin(t, int(n)+free, []uint64{0, 1, 2, 3, 4}[:n]...)
					switch call {
					case 0:
						w.add(h)
					case 1:
						w.remove(h)
					case 2:
						w.remove(h)
						w.same(h)
						w.remove(h)
						w.same(h)
						w.add(h)
					case 3:
						w.add(h, h)
						w.remove(h)
					}
					w.same(0, 1, 2, 3, 4)
					for next := uint64(10); next < 18; next++ {
						w.add(next)
						w.same(0, 1, 2, 3, 4)
					}
				}
			}
		}
	}
}

// One that is there and comes again is the newest; nothing goes for it, since there aren't more.
func TestAgain(t *testing.T) {
	g := ghost.New(3)
	for _, h := range []uint64{7, 8, 9} {
		g.Add(h)
	}
	g.Add(9)
	holds(t, g, []uint64{7, 8, 9})
	g.Add(7)
	holds(t, g, []uint64{8, 9, 7})
	g.Add(9)
	holds(t, g, []uint64{8, 7, 9})
	g.Add(1)
	holds(t, g, []uint64{7, 9, 1}, 8)
	g.Add(8)
	holds(t, g, []uint64{9, 1, 8}, 7)
}

// One that went, or was removed, comes anew.
func TestAnew(t *testing.T) {
	g := ghost.New(2)
	for range 5 {
		g.Add(1)
		g.Add(2)
		holds(t, g, []uint64{1, 2}, 3)
		g.Add(3)
		holds(t, g, []uint64{2, 3}, 1)
		g.Add(1)
		holds(t, g, []uint64{3, 1}, 2)
		if !g.Remove(3) || g.Remove(3) || g.Remove(2) {
			t.Error("K1: Remove of one that is there, of it again, of one that went: not true, false, false")
		}
		holds(t, g, []uint64{1}, 2, 3)
		g.Add(3)
		holds(t, g, []uint64{1, 3}, 2)
		g.Remove(3)
		g.Add(4)
		holds(t, g, []uint64{1, 4}, 2, 3)
	}
}

// Each limit, from each other one: what falls lets the oldest ones go, what rises gives none back.
func TestLimit(t *testing.T) {
	for n := range 7 {
		for one := -2; one < 9; one++ {
			for other := -2; other < 9; other++ {
				w := newTwin(t, 6)
				for h := range n {
					w.add(uint64(h))
				}
				w.limit(one)
				w.same(0, 1, 2, 3, 4, 5)
				w.limit(other)
				w.same(0, 1, 2, 3, 4, 5)
				for _, h := range []uint64{3, 20, 5, 21, 22, 3, 23, 24, 25, 26, 27} {
					w.add(h)
					w.same(0, 1, 2, 3, 4, 5, 20, 21)
				}
			}
		}
	}
}

// The named edges of Limit, told by hand.
func TestLimitEdges(t *testing.T) {
	for _, c := range []struct {
		most int
		want []uint64
	}{
		{6, []uint64{1, 2, 3, 4}}, {5, []uint64{1, 2, 3, 4}}, {4, []uint64{1, 2, 3, 4}}, {3, []uint64{2, 3, 4}},
		{1, []uint64{4}}, {0, nil}, {-1, nil}, {math.MinInt, nil}, {math.MaxInt, []uint64{1, 2, 3, 4}},
	} {
		g := ghost.New(5)
		for h := uint64(1); h <= 4; h++ {
			g.Add(h)
		}
		g.Limit(c.most)
		holds(t, g, c.want, 0, 5)
		g.Limit(5)
		holds(t, g, c.want, 0, 5)
		for h := uint64(11); h <= 15; h++ {
			g.Add(h)
		}
		holds(t, g, []uint64{11, 12, 13, 14, 15}, 1, 2, 3, 4)
	}
}

// Without any, there is nothing to find or remove, and that changes nothing.
func TestEmpty(t *testing.T) {
	g := ghost.New(3)
	for range 3 {
		for _, h := range []uint64{0, 1, 2, 1 << 63, most64} {
			if g.Has(h) || g.Remove(h) || g.Len() != 0 || len(g.All()) != 0 {
				t.Fatalf("K1: without any: %d is found", h)
			}
		}
		g.Add(5)
		holds(t, g, []uint64{5}, 0, most64)
		g.Remove(5)
	}
	holds(t, g, nil, 0, 5, most64)
}

// What isn't there isn't found nor removed, and asking for it changes nothing: nobody becomes newer by being asked for.
func TestWrong(t *testing.T) {
	g := ghost.New(3)
	for _, h := range []uint64{1, 2, 3, 4, 5} {
		g.Add(h)
	}
	g.Remove(4)
	for range 3 {
		for _, h := range []uint64{0, 1, 2, 4, 6, 1<<32 + 3, 1<<63 + 5, most64} {
			if g.Has(h) || g.Remove(h) {
				t.Errorf("K1: %d is found", h)
			}
			g.Has(3)
			g.Len()
			g.All()
			holds(t, g, []uint64{3, 5}, 0, 1, 2, 4, 6)
		}
	}
	g.Add(6)
	g.Add(7)
	holds(t, g, []uint64{5, 6, 7}, 3)
}

// play makes a random call, of so many numbers.
func (w *twin) play(r *rand.Rand, numbers int) {
	w.t.Helper()
	h := uint64(r.Intn(numbers))
	if r.Intn(5) == 0 {
		h = most64 - h
	}
	switch n := r.Intn(20); {
	case n < 12:
		w.add(h)
	case n < 18:
		w.remove(h)
	case n < 19:
		w.limit(r.Intn(numbers+2) - 1)
	default:
		w.limit(numbers)
	}
}

// All short scripts of four numbers, held against the chapter's words.
func TestShortScripts(t *testing.T) {
	const calls, long = 12, 5
	scripts := 1
	for range long {
		scripts *= calls
	}
	for script := range scripts {
		w := newTwin(t, 3)
		for n, i := script, 0; i < long; i++ {
			switch call := n % calls; {
			case call < 4:
				w.add(uint64(call))
			case call < 8:
				w.remove(uint64(call - 4))
			default:
				w.limit(call - 8)
			}
			n /= calls
		}
		w.same(0, 1, 2, 3)
	}
}

// Long scripts, each held against the chapter's words step by step.
func TestScripts(t *testing.T) {
	for seed := range 80 {
		r := rand.New(rand.NewSource(int64(seed)))
		numbers := 2 + seed
		w := newTwin(t, r.Intn(numbers))
		for range 400 {
			w.play(r, numbers)
			w.same(uint64(r.Intn(numbers)), most64-uint64(r.Intn(numbers)))
		}
	}
}

// Whatever is called, each number is there once at most, and never more than may be.
func TestWhatFollows(t *testing.T) {
	r := rand.New(rand.NewSource(5))
	for most := range 10 {
		g := ghost.New(most)
		for range 1000 {
			h := uint64(r.Intn(12))
			if r.Intn(3) == 0 {
				g.Remove(h)
			} else {
				g.Add(h)
			}
			l := g.All()
			if len(l) > most || g.Len() != len(l) {
				t.Fatalf("K1: of %d at most: %v, Len() = %d", most, l, g.Len())
			}
			slices.Sort(l)
			if len(slices.Compact(l)) != g.Len() {
				t.Fatalf("K1: a number is there twice: %v", g.All())
			}
		}
	}
}

// Two of them have nothing to do with each other, though the numbers be the same (R3).
func TestTwo(t *testing.T) {
	r := rand.New(rand.NewSource(1))
	a, b := newTwin(t, 5), newTwin(t, 8)
	for range 2000 {
		w := a
		if r.Intn(2) == 0 {
			w = b
		}
		w.play(r, 10)
		a.same(0, 5, 9)
		b.same(0, 5, 9)
	}
}

// What came out may be written over, and is not written over from within (R1).
func TestOwned(t *testing.T) {
	for n := range uint64(6) {
		w := newTwin(t, 5, []uint64{1, 2, 3, 4, 5}[:n]...)
		one, other := w.g.All(), w.g.All()
		for i := range one {
			one[i] = 77
		}
		_ = append(one[:0], 78, 79, 80)
		_ = append(one, 81, 82)
		if !slices.Equal(other, w.m.l) {
			t.Fatalf("R1: two answers of All share their numbers: %v", other)
		}
		w.same(77, 78, 79, 80, 81, 82)
		was := slices.Clone(other)
		w.add(9, 1)
		w.remove(2)
		w.limit(2)
		w.add(10)
		if !slices.Equal(other, was) {
			t.Fatalf("R1: an answer of All changed: %v; was %v", other, was)
		}
		w.same(2, 3, 4, 5)
	}
}

// The same calls have the same answers (R4).
func TestSameAgain(t *testing.T) {
	a, b := newTwin(t, 300), newTwin(t, 300)
	for _, w := range []*twin{a, b} {
		r := rand.New(rand.NewSource(3))
		for range 3000 {
			w.play(r, 500)
		}
	}
	if x, y := a.g.All(), b.g.All(); !slices.Equal(x, y) {
		t.Errorf("R4: All: %v and %v", x, y)
	}
}

// Many numbers come, come again and go.
func TestMany(t *testing.T) {
	const n = 50000
	const stride = 11400714819323198485 // odd: no two of its multiples are the same number
	var l []uint64
	g := ghost.New(n)
	for i := range uint64(2 * n) {
		g.Add(i * stride)
		if i >= n {
			l = append(l, i*stride)
		}
	}
	holds(t, g, l, 0, stride)
	slices.Reverse(l)
	for _, h := range l {
		g.Add(h)
	}
	holds(t, g, l)
	g.Limit(n / 2)
	holds(t, g, l[n/2:], l[:n/2]...)
	for _, h := range l[:n/2] {
		if g.Remove(h) {
			t.Fatalf("K1: Remove(%d) = true of one that went", h)
		}
	}
	for _, h := range l[n/2:] {
		if !g.Remove(h) {
			t.Fatalf("K1: Remove(%d) = false", h)
		}
	}
	holds(t, g, nil, l...)
}
