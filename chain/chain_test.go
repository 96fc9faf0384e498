package chain_test

import (
	"fmt"
	"hash/fnv"
	"math"
	"math/rand"
	"slices"
	"strings"
	"testing"

	"ambry/chain"
)

// pair is an entry, as the chapter tells of it.
type pair struct {
	key string
	n   int
}

// plain is a table by the chapter's words alone: two rows of buckets, each a list of entries from its front.
type plain struct {
	power    int
	grows    bool
	moved    int
	old, new [][]pair
}

func newPlain() *plain { return &plain{power: 2, new: make([][]pair, 4)} }

func number(key string, power int) int {
	f := fnv.New64a()
	f.Write([]byte(key))
	return int(f.Sum64() % (1 << power))
}

func (m *plain) home(key string) *[]pair {
	if m.grows && number(key, m.power-1) >= m.moved {
		return &m.old[number(key, m.power-1)]
	}
	return &m.new[number(key, m.power)]
}

func (m *plain) find(key string) (*[]pair, int) {
	b := m.home(key)
	return b, slices.IndexFunc(*b, func(p pair) bool { return p.key == key })
}

func (m *plain) Set(key string, n int) {
	b, i := m.find(key)
	if i >= 0 {
		(*b)[i].n = n
		return
	}
	*b = slices.Insert(*b, 0, pair{key, n})
	if !m.grows && float64(m.Len()) > 1.5*float64(len(m.new)) && m.power < 20 {
		m.power++
		m.grows, m.moved = true, 0
		m.old, m.new = m.new, make([][]pair, 1<<m.power)
	}
}

func (m *plain) Get(key string) (int, bool) {
	b, i := m.find(key)
	if i < 0 {
		return 0, false
	}
	return (*b)[i].n, true
}

func (m *plain) Delete(key string) bool {
	b, i := m.find(key)
	if i < 0 {
		return false
	}
	*b = slices.Delete(*b, i, i+1)
	return true
}

func (m *plain) Step() bool {
	if !m.grows {
		return false
	}
	l := m.old[m.moved]
	m.old[m.moved] = nil
	for _, p := range l {
		b := &m.new[number(p.key, m.power)]
		*b = slices.Insert(*b, 0, p)
	}
	m.moved++
	m.grows = m.moved < len(m.old)
	return m.grows
}

func (m *plain) rows() [][]pair {
	if m.grows {
		return slices.Concat(m.old[m.moved:], m.new)
	}
	return m.new
}

func (m *plain) Len() int {
	n := 0
	for _, b := range m.rows() {
		n += len(b)
	}
	return n
}

func (m *plain) Moved() int {
	if m.grows {
		return m.moved
	}
	return -1
}

func keysOf(rows ...[]pair) []string {
	var l []string
	for _, b := range rows {
		for _, p := range b {
			l = append(l, p.key)
		}
	}
	return l
}

// twin is a table, beside what the chapter says of it.
type twin struct {
	t *testing.T
	c *chain.Table
	m *plain
}

func newTwin(t *testing.T) *twin { return &twin{t, chain.New(), newPlain()} }

func (w *twin) set(key string, n int) {
	w.c.Set(key, n)
	w.m.Set(key, n)
}

func (w *twin) get(key string) {
	w.t.Helper()
	n, ok := w.c.Get(key)
	if wn, wok := w.m.Get(key); n != wn || ok != wok {
		w.t.Fatalf("I1: Get(%.40q) = %d, %v; want %d, %v", key, n, ok, wn, wok)
	}
}

func (w *twin) delete(key string) {
	w.t.Helper()
	if ok, want := w.c.Delete(key), w.m.Delete(key); ok != want {
		w.t.Fatalf("I1: Delete(%.40q) = %v; want %v", key, ok, want)
	}
}

func (w *twin) step() bool {
	w.t.Helper()
	ok, want := w.c.Step(), w.m.Step()
	if ok != want {
		w.t.Fatalf("I1: Step() = %v; want %v", ok, want)
	}
	return ok
}

// fill sets so many keys, numbered from first on.
func (w *twin) fill(first, n int) {
	for i := range n {
		w.set(name(first+i), first+i)
	}
}

func name(i int) string { return fmt.Sprintf("key%d", i) }

// brief tells that the two are alike in their few numbers.
func (w *twin) brief() {
	w.t.Helper()
	if n, want := w.c.Len(), w.m.Len(); n != want {
		w.t.Fatalf("I2: Len() = %d; want %d", n, want)
	}
	if n := w.c.Power(); n != w.m.power {
		w.t.Fatalf("I2: Power() = %d; want %d", n, w.m.power)
	}
	if n, want := w.c.Moved(), w.m.Moved(); n != want {
		w.t.Fatalf("I2: Moved() = %d; want %d", n, want)
	}
}

// same tells that the two are alike in all that they tell.
func (w *twin) same() {
	w.t.Helper()
	w.brief()
	l := w.c.Keys()
	if want := keysOf(w.m.rows()...); !slices.Equal(l, want) {
		w.t.Fatalf("I2: Keys() = %q; want %q", l, want)
	}
	for i, b := range w.m.new {
		if l, want := w.c.Bucket(i), keysOf(b); !slices.Equal(l, want) {
			w.t.Fatalf("I2: Bucket(%d) = %q; want %q", i, l, want)
		}
	}
	for _, key := range l {
		w.get(key)
	}
	slices.Sort(l)
	if len(slices.Compact(l)) != w.c.Len() {
		w.t.Fatalf("I1: a key stands twice among %q", l)
	}
	w.noBucket()
}

// noBucket tells that there are no buckets beside those that the power tells of.
func (w *twin) noBucket() {
	w.t.Helper()
	n := len(w.m.new)
	for _, i := range []int{-1, -2, -n, -n - 1, n, n + 1, 2 * n, 1 << 20, 1 << 32, 1<<32 + 1, math.MaxInt, math.MinInt, math.MinInt + 1} {
		if l := w.c.Bucket(i); len(l) != 0 {
			w.t.Fatalf("I2: Bucket(%d) of %d buckets = %q", i, n, l)
		}
	}
}

func TestExample(t *testing.T) {
	c := chain.New()
	for i := range 6 {
		c.Set(name(i), i)
	}
	if c.Power() != 2 || c.Len() != 6 || c.Moved() != -1 {
		t.Errorf("I2: six keys: power %d, %d entries, moved %d", c.Power(), c.Len(), c.Moved())
	}
	if c.Step() {
		t.Error("I1: six keys: Step() = true")
	}
	c.Set(name(6), 6)
	if c.Power() != 3 || c.Len() != 7 || c.Moved() != 0 {
		t.Errorf("I2: seven keys: power %d, %d entries, moved %d", c.Power(), c.Len(), c.Moved())
	}
	for i, want := range []bool{true, true, true, false, false} {
		if ok := c.Step(); ok != want {
			t.Errorf("I1: Step %d: %v; want %v", i, ok, want)
		}
		if moved := []int{1, 2, 3, -1, -1}[i]; c.Moved() != moved {
			t.Errorf("I2: behind step %d: Moved() = %d; want %d", i, c.Moved(), moved)
		}
	}
	if c.Power() != 3 || c.Len() != 7 {
		t.Errorf("I2: moved: power %d, %d entries", c.Power(), c.Len())
	}
}

func TestNew(t *testing.T) {
	w := newTwin(t)
	w.same()
	if l := w.c.Keys(); len(l) != 0 {
		t.Errorf("I2: Keys() of none = %q", l)
	}
	if w.step() || w.c.Power() != 2 || w.c.Moved() != -1 {
		t.Errorf("I1: a new table grows")
	}
	w.get("")
	w.get("k")
	w.delete("")
	w.delete("k")
	w.same()
}

func TestCalls(t *testing.T) {
	c := chain.New()
	has := func(key string, n int, is bool) {
		t.Helper()
		if got, ok := c.Get(key); got != n || ok != is {
			t.Errorf("I1: Get(%q) = %d, %v; want %d, %v", key, got, ok, n, is)
		}
	}
	has("a", 0, false)
	c.Set("a", 5)
	c.Set("b", -6)
	has("a", 5, true)
	has("b", -6, true)
	has("ab", 0, false)
	has("A", 0, false)
	c.Set("a", 0)
	has("a", 0, true)
	c.Set("a", math.MaxInt)
	has("a", math.MaxInt, true)
	c.Set("a", math.MinInt)
	has("a", math.MinInt, true)
	if c.Len() != 2 {
		t.Errorf("I2: Len() = %d; want 2", c.Len())
	}
	if !c.Delete("a") || c.Delete("a") || c.Delete("c") {
		t.Error("I1: Delete tells wrongly whether there was one")
	}
	has("a", 0, false)
	has("b", -6, true)
	c.Set("a", 7)
	has("a", 7, true)
	if l := c.Keys(); c.Len() != 2 || len(l) != 2 {
		t.Errorf("I2: Len() = %d, Keys() = %q; want 2", c.Len(), l)
	}
}

// Any text is a key.
func TestTexts(t *testing.T) {
	l := []string{
		"", " ", "\x00", "\x00\x00", "a\x00", "\xff", "\xff\xfe", "\r\n", "a b", "\u00e9", "e\u0301", "\xc3",
		strings.Repeat("k", 250), strings.Repeat("k", 251), strings.Repeat("k", 100000), strings.Repeat("k", 99999) + "l",
	}
	w := newTwin(t)
	for i, key := range l {
		for _, other := range l {
			w.get(other)
		}
		w.set(key, i+1)
		w.same()
	}
	for _, key := range l {
		w.step()
		w.same()
		w.delete(key)
		w.get(key)
		w.delete(key)
		w.same()
	}
}

// The empty text stands in its bucket like others, moves and goes.
func TestEmptyText(t *testing.T) {
	w := newTwin(t)
	w.set("", 9)
	w.fill(0, 6)
	w.same()
	for w.step() {
		w.get("")
		w.same()
	}
	w.set("", 10)
	w.get("")
	w.delete("")
	w.get("")
	w.same()
}

// It grows when the entries are more than one and a half times the buckets, not when they are so many.
func TestGrows(t *testing.T) {
	w := newTwin(t)
	for power := 2; power < 9; power++ {
		most := 3 << (power - 1)
		for w.c.Len() < most {
			w.set(name(w.c.Len()), 1)
			w.brief()
			if w.c.Power() != power || w.c.Moved() != -1 {
				t.Fatalf("I1: %d entries: power %d, moved %d", w.c.Len(), w.c.Power(), w.c.Moved())
			}
		}
		w.set(name(most), 1)
		if w.c.Power() != power+1 || w.c.Moved() != 0 {
			t.Fatalf("I1: %d entries: power %d, moved %d", w.c.Len(), w.c.Power(), w.c.Moved())
		}
		for i := range 1 << power {
			if w.c.Moved() != i {
				t.Fatalf("I2: Moved() = %d; want %d", w.c.Moved(), i)
			}
			w.same()
			w.step()
		}
		w.same()
	}
}

// A key that is there already makes nothing grow, one that was deleted counts no more.
func TestGrowsByComingOnes(t *testing.T) {
	w := newTwin(t)
	w.fill(0, 6)
	for i := range 20 {
		w.set(name(i%6), i)
		w.delete(name(i % 6))
		w.set(name(i%6), i)
		w.delete(name(20))
		w.same()
	}
	if w.c.Power() != 2 || w.c.Moved() != -1 {
		t.Errorf("I1: power %d, moved %d with six entries", w.c.Power(), w.c.Moved())
	}
}

// While it grows it does not grow anew, however many come; behind the last move, only the next one that comes makes it.
func TestGrowsOnceAtATime(t *testing.T) {
	w := newTwin(t)
	w.fill(0, 60)
	w.same()
	if w.c.Power() != 3 || w.c.Moved() != 0 || w.c.Len() != 60 {
		t.Fatalf("I1: 60 entries without a step: power %d, moved %d", w.c.Power(), w.c.Moved())
	}
	for w.step() {
		w.set(name(100+w.c.Moved()), 1)
		w.same()
	}
	if w.c.Power() != 3 || w.c.Moved() != -1 {
		t.Fatalf("I1: behind the last move: power %d, moved %d", w.c.Power(), w.c.Moved())
	}
	w.set(name(0), 5)
	w.get(name(1))
	w.delete(name(2))
	w.step()
	if w.c.Power() != 3 || w.c.Moved() != -1 {
		t.Fatalf("I1: nothing came: power %d, moved %d", w.c.Power(), w.c.Moved())
	}
	w.set(name(2), 5)
	if w.c.Power() != 4 || w.c.Moved() != 0 {
		t.Fatalf("I1: one came: power %d, moved %d", w.c.Power(), w.c.Moved())
	}
	w.same()
}

// A table that has grown stays as great, however few are left; it grows on to the end without any.
func TestNeverShrinks(t *testing.T) {
	w := newTwin(t)
	w.fill(0, 13)
	w.step()
	for i := range 13 {
		w.delete(name(i))
		w.same()
	}
	if w.c.Len() != 0 || w.c.Power() != 3 || w.c.Moved() != 1 {
		t.Fatalf("I2: %d entries, power %d, moved %d", w.c.Len(), w.c.Power(), w.c.Moved())
	}
	for w.step() {
		w.same()
	}
	w.fill(0, 12)
	if w.c.Power() != 3 || w.c.Moved() != -1 {
		t.Fatalf("I2: 12 entries: power %d, moved %d", w.c.Power(), w.c.Moved())
	}
	w.same()
}

// alike are n keys whose lowest bits of this power are these.
func alike(n, bits, power int) []string {
	var l []string
	for i := 0; len(l) < n; i++ {
		if key := name(i); number(key, power) == bits {
			l = append(l, key)
		}
	}
	return l
}

// Who comes stands at the front; a move turns a bucket's order round; a number that changes moves nothing.
func TestOrder(t *testing.T) {
	c := chain.New()
	l := alike(7, 5, 3) // bucket 1 of four, then 5 of eight
	for i, key := range l {
		c.Set(key, i)
		c.Set(l[0], i)
	}
	back := slices.Clone(l)
	slices.Reverse(back)
	if got := c.Keys(); !slices.Equal(got, back) {
		t.Errorf("I2: Keys() = %q; want %q", got, back)
	}
	if got := c.Bucket(5); len(got) != 0 {
		t.Errorf("I2: Bucket(5) = %q ahead of the move", got)
	}
	c.Step()
	if got := c.Bucket(5); len(got) != 0 {
		t.Errorf("I2: Bucket(5) = %q behind the move of old bucket 0", got)
	}
	c.Step()
	if got := c.Bucket(5); !slices.Equal(got, l) {
		t.Errorf("I1: Bucket(5) = %q; want %q", got, l)
	}
	c.Delete(l[3])
	c.Set(l[3], 1)
	want := []string{l[3], l[0], l[1], l[2], l[4], l[5], l[6]}
	if got := c.Bucket(5); !slices.Equal(got, want) {
		t.Errorf("I1: Bucket(5) = %q; want %q", got, want)
	}
}

// Entries of one old bucket go to two new ones, each in turned order.
func TestOrderOfTwo(t *testing.T) {
	low, high := alike(4, 2, 3), alike(4, 6, 3)
	w := newTwin(t)
	for i := range 4 {
		w.set(low[i], i)
		w.set(high[i], i)
	}
	for range 3 {
		w.step()
		w.same()
	}
	if got := w.c.Bucket(2); !slices.Equal(got, low) {
		t.Errorf("I1: Bucket(2) = %q; want %q", got, low)
	}
	// The last of high came while it grew already, to the front of the old bucket.
	if got := w.c.Bucket(6); !slices.Equal(got, high) {
		t.Errorf("I1: Bucket(6) = %q; want %q", got, high)
	}
}

// What comes while it grows stands in its old bucket, if that is not moved, else in its new one.
func TestComesWhileItGrows(t *testing.T) {
	for moved := range 4 {
		for bits := range 8 {
			w := newTwin(t)
			w.fill(0, 7)
			for range moved {
				w.step()
			}
			key := alike(8, bits, 3)[7]
			w.set(key, 77)
			w.same()
			in := slices.Contains(w.c.Bucket(bits), key)
			if in != (bits%4 < moved) {
				t.Errorf("I1: %d moved: a key of bucket %d stands in the new one: %v", moved, bits, in)
			}
			for w.step() {
				w.same()
			}
			w.same()
		}
	}
}

// Each call on each key, at each number of moved buckets: those that are there, and those that are not.
func TestEachCallAtEachMove(t *testing.T) {
	const there, all = 15, 22
	for moved := range 5 {
		for i := range all {
			for call := range 4 {
				w := newTwin(t)
				w.fill(0, there)
				for range moved {
					w.step()
				}
				key := name(i)
				switch call {
				case 0:
					w.set(key, -i)
				case 1:
					w.get(key)
				case 2:
					w.delete(key)
				case 3:
					w.delete(key)
					w.set(key, -i)
				}
				w.get(key)
				w.same()
				for w.step() {
					w.get(key)
					w.same()
				}
				w.same()
			}
		}
	}
}

// Each key of a bucket goes out of it alone: the first, those between, the last.
func TestDeleteOfEach(t *testing.T) {
	for _, moves := range []int{0, 4} {
		for i := range 9 {
			for k := range 9 {
				w := newTwin(t)
				l := alike(9, 3, 5)
				for n, key := range l {
					w.set(key, n)
				}
				for range moves {
					w.step()
				}
				w.delete(l[i])
				w.delete(l[k])
				w.same()
				w.delete(l[i])
				w.set(l[i], 5)
				w.same()
			}
		}
	}
}

// Moves change no answer of Get and Len.
func TestMovesChangeNothing(t *testing.T) {
	c := chain.New()
	for i := range 50 {
		c.Set(name(i), i*i)
	}
	for moving := true; moving; {
		moving = c.Step()
		if c.Len() != 50 {
			t.Fatalf("I2: Len() = %d behind a move", c.Len())
		}
		for i := range 60 {
			n, ok := c.Get(name(i))
			if ok != (i < 50) || ok && n != i*i || !ok && n != 0 {
				t.Fatalf("I1: Get(%d) = %d, %v behind a move", i, n, ok)
			}
		}
	}
}

// No other call moves.
func TestOnlyStepMoves(t *testing.T) {
	w := newTwin(t)
	w.fill(0, 7)
	w.step()
	for i := range 40 {
		w.set(name(i), i)
		w.get(name(i))
		w.get(name(i + 100))
		w.delete(name(i + 100))
		w.delete(name(i / 2))
		w.same()
		if w.c.Moved() != 1 || w.c.Power() != 3 {
			t.Fatalf("I1: a call moved: power %d, moved %d", w.c.Power(), w.c.Moved())
		}
	}
}

// Many scripts, each held against the chapter's words step by step.
func TestScripts(t *testing.T) {
	for seed := range 60 {
		r := rand.New(rand.NewSource(int64(seed)))
		w := newTwin(t)
		keys := 4 + seed*3
		for range 300 {
			key := name(r.Intn(keys))
			switch k := r.Intn(20); {
			case k < 9+seed%5:
				w.set(key, r.Int())
			case k < 15:
				w.delete(key)
			case k < 17:
				w.get(key)
			default:
				w.step()
			}
			w.brief()
			if r.Intn(8) == 0 {
				w.same()
			}
		}
		w.same()
	}
}

// Two tables have nothing to do with each other.
func TestTwo(t *testing.T) {
	r := rand.New(rand.NewSource(1))
	a, b := newTwin(t), newTwin(t)
	for range 300 {
		w := a
		if r.Intn(2) == 0 {
			w = b
		}
		switch key := name(r.Intn(40)); r.Intn(5) {
		case 0, 1, 2:
			w.set(key, r.Int())
		case 3:
			w.delete(key)
		case 4:
			w.step()
		}
		a.same()
		b.same()
	}
}

// What came out may be written over.
func TestOwned(t *testing.T) {
	w := newTwin(t)
	w.fill(0, 20)
	for {
		lists := [][]string{w.c.Keys(), w.c.Keys(), w.c.Bucket(0), w.c.Bucket(5)}
		for _, l := range lists {
			for i := range l {
				l[i] = "overwritten"
			}
			_ = append(l, "behind", "it")
			w.same()
		}
		if !w.step() {
			break
		}
	}
	w.same()
}

// It grows up to the power 20 and no further.
func TestGreatest(t *testing.T) {
	const most = 3 << 19
	c := chain.New()
	for i := range most + 2 {
		c.Set(name(i), i)
		// Two moves for each that comes: it is done ahead of its growing anew.
		c.Step()
		c.Step()
		if i == most/2-1 && (c.Power() != 19 || c.Moved() != -1) {
			t.Errorf("I1: %d entries: power %d, moved %d", i+1, c.Power(), c.Moved())
		}
		if i == most/2 && (c.Power() != 20 || c.Moved() != 2) {
			t.Errorf("I1: %d entries: power %d, moved %d", i+1, c.Power(), c.Moved())
		}
	}
	if c.Power() != 20 || c.Moved() != -1 || c.Len() != most+2 || c.Step() {
		t.Errorf("I1: %d entries: power %d, moved %d", c.Len(), c.Power(), c.Moved())
	}
	for i := range most + 4 {
		if i%1000 > 2 && i < most {
			continue
		}
		if n, ok := c.Get(name(i)); ok != (i < most+2) || ok && n != i {
			t.Fatalf("I1: Get(%d) = %d, %v", i, n, ok)
		}
	}
}
