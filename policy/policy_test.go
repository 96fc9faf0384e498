package policy_test

import (
	"math"
	"math/rand"
	"reflect"
	"slices"
	"testing"

	"ambry/policy"
)

const (
	plain     = 0
	segmented = 1
	adaptive  = 2
	three     = 3
)

const (
	mostID   = 4194303
	greatest = math.MaxUint64
)

// names are those of the kinds.
var names = []string{"plain", "segmented", "adaptive", "three"}

// noIDs are numbers that are no ids.
var noIDs = []int{-1, -2, -5, -mostID, mostID + 1, mostID + 2, mostID + 6, 1 << 32, 1<<32 + 5, -1 << 32, math.MaxInt, math.MinInt, math.MinInt + 1}

// noKinds are numbers of kinds that are not there.
var noKinds = []int{-1, -2, -3, -4, 4, 5, 6, 7, 8, 1 << 8, 1 << 32, 1<<32 + 1, 1<<32 + 3, -1 << 32, math.MaxInt, math.MinInt, math.MinInt + 1}

// ofEach runs the test for each kind.
func ofEach(t *testing.T, test func(t *testing.T, kind int)) {
	for kind, name := range names {
		t.Run(name, func(t *testing.T) { test(t, kind) })
	}
}

// twin is a policy, beside what the chapters say of it.
type twin struct {
	t *testing.T
	p *policy.Policy
	m words
}

func newTwin(t *testing.T, kind, cap int) *twin {
	t.Helper()
	p := policy.New(kind)
	if p == nil {
		t.Fatalf("O1: New(%d) is nil", kind)
	}
	w := &twin{t, p, newWords(kind)}
	w.cap(cap)
	return w
}

func (w *twin) cap(n int) {
	w.p.Cap(n)
	w.m.Cap(n)
}

func (w *twin) insert(id int, h uint64) {
	w.t.Helper()
	if ok, want := w.p.Insert(id, h), w.m.Insert(id, h); ok != want {
		w.t.Fatalf("O2: Insert(%d, %d) = %v; want %v", id, h, ok, want)
	}
}

// come lets ids come, each with 10 more as its number.
func (w *twin) come(ids ...int) {
	w.t.Helper()
	for _, id := range ids {
		w.insert(id, uint64(id+10))
	}
}

func (w *twin) touch(ids ...int) {
	w.t.Helper()
	for _, id := range ids {
		if ok, want := w.p.Touch(id), w.m.Touch(id); ok != want {
			w.t.Fatalf("O2: Touch(%d) = %v; want %v", id, ok, want)
		}
	}
}

func (w *twin) remove(ids ...int) {
	w.t.Helper()
	for _, id := range ids {
		if ok, want := w.p.Remove(id), w.m.Remove(id); ok != want {
			w.t.Fatalf("O2: Remove(%d) = %v; want %v", id, ok, want)
		}
	}
}

func (w *twin) evict(ids ...int) {
	w.t.Helper()
	for _, id := range ids {
		if ok, want := w.p.Evict(id), w.m.Evict(id); ok != want {
			w.t.Fatalf("O2: Evict(%d) = %v; want %v", id, ok, want)
		}
	}
}

// victim asks who is to go for the number.
func (w *twin) victim(h uint64) int {
	w.t.Helper()
	id, want := w.p.Victim(h), w.m.Victim(h)
	if id != want {
		w.t.Fatalf("O2: Victim(%d) = %d; want %d; they are %+v", h, id, want, w.m)
	}
	return id
}

// tells asks who is to go for the number, and holds that it is this id.
func (w *twin) tells(h uint64, want int) {
	w.t.Helper()
	if id := w.victim(h); id != want {
		w.t.Fatalf("O2: Victim(%d) = %d; want %d", h, id, want)
	}
}

// same tells that the two are alike in who stands, of these ids and all that do.
func (w *twin) same(ids ...int) {
	w.t.Helper()
	all := w.m.ids()
	if n := w.p.Len(); n != len(all) {
		w.t.Fatalf("O2: Len() = %d; want %d", n, len(all))
	}
	for _, id := range all {
		if !w.p.Has(id) {
			w.t.Fatalf("O2: Has(%d) = false; it stands", id)
		}
	}
	for _, id := range ids {
		if has, want := w.p.Has(id), slices.Contains(all, id); has != want {
			w.t.Fatalf("O2: Has(%d) = %v; want %v", id, has, want)
		}
	}
}

// stand holds that just these ids stand.
func (w *twin) stand(ids ...int) {
	w.t.Helper()
	if n := w.p.Len(); n != len(ids) {
		w.t.Fatalf("O2: Len() = %d; want %d", n, len(ids))
	}
	w.same(ids...)
	for _, id := range ids {
		if !w.p.Has(id) {
			w.t.Fatalf("O2: Has(%d) = false; it stands", id)
		}
	}
}

// drain asks for victims and takes them out, till none stands; they are told.
func (w *twin) drain() []int {
	w.t.Helper()
	var gone []int
	for w.p.Len() > 0 {
		id := w.victim(9)
		if id < 0 {
			w.t.Fatalf("O2: Victim(9) = %d; %d ids stand", id, w.p.Len())
		}
		w.remove(id)
		w.same(id)
		gone = append(gone, id)
	}
	w.tells(9, -1)
	return gone
}

// goes holds that victims go in this order, if just these ids stand.
func (w *twin) goes(want ...int) {
	w.t.Helper()
	if l := w.drain(); !slices.Equal(l, want) {
		w.t.Fatalf("O2: victims go so: %v; want %v", l, want)
	}
}

// recalled lets ids come with each of these numbers, and go again: ghosts that have another content let them stand elsewhere.
func (w *twin) recalled(numbers ...uint64) {
	w.t.Helper()
	w.drain()
	for i, h := range numbers {
		w.insert(i, h)
		w.same(i)
	}
	w.drain()
}

func TestExample(t *testing.T) {
	for _, kind := range []int{plain, segmented} {
		p := policy.New(kind)
		if p == nil || !p.Insert(1, 1) || !p.Insert(2, 2) || !p.Touch(1) {
			t.Fatalf("O2: of kind %d: Insert or Touch: false", kind)
		}
		if id := p.Victim(3); id != 2 {
			t.Errorf("O2: of kind %d: Victim() = %d; want 2", kind, id)
		}
		if p.Len() != 2 || !p.Has(1) || !p.Has(2) {
			t.Errorf("O2: of kind %d: the two do not stand", kind)
		}
	}
	if policy.New(4) != nil {
		t.Error("O1: New(4) is not nil")
	}
}

// The adaptive kind's chapter has an example, and the kind three's.
func TestLowerExamples(t *testing.T) {
	w := newTwin(t, adaptive, 2)
	w.insert(1, 11)
	w.insert(2, 12)
	w.tells(13, 1)
	w.evict(1)
	w.insert(3, 11)
	w.tells(14, 3)

	w = newTwin(t, three, 10)
	w.insert(1, 11)
	w.insert(2, 12)
	w.insert(3, 13)
	w.touch(1, 1)
	w.tells(14, 2)
	w.evict(2)
	w.tells(14, 1)
	w.insert(4, 12)
	w.goes(1, 4, 3)

	w = newTwin(t, segmented, 0)
	w.come(1, 2, 3, 4, 5)
	w.tells(9, 1)
	w.touch(1)
	w.tells(9, 2)
}

// Of each kind that there is, one without ids; of others nothing.
func TestNew(t *testing.T) {
	for _, kind := range noKinds {
		if policy.New(kind) != nil {
			t.Errorf("O1: New(%d) is not nil", kind)
		}
	}
	ofEach(t, func(t *testing.T, kind int) {
		p := policy.New(kind)
		if p == nil {
			t.Fatalf("O1: New(%d) is nil", kind)
		}
		if p.Len() != 0 || p.Has(0) || p.Has(1) || p.Has(-1) {
			t.Error("O1: a new one has ids")
		}
		for _, h := range []uint64{0, 1, greatest} {
			if id := p.Victim(h); id != -1 {
				t.Errorf("O2: of none: Victim(%d) = %d; want -1", h, id)
			}
		}
		if p.Touch(0) || p.Remove(0) || p.Evict(0) || p.Len() != 0 {
			t.Error("O2: of none: Touch, Remove or Evict of 0: true")
		}
	})
}

// Five numbered ids come, one is asked for, and the kinds differ in who is to go first and behind.
func TestKinds(t *testing.T) {
	for _, c := range []struct {
		kind int
		cap  int
		want []int
	}{
		// The row from its front: 1 5 4 3 2.
		{plain, 0, []int{2, 3, 4, 5, 1}},
		// Warm 1, cold 4 3 2, hot 5; 5 goes to cold as soon as four stand, 1 as soon as two do.
		{segmented, 0, []int{2, 3, 4, 5, 1}},
		// Once 5 4 3 2, again 1; P is 0.
		{adaptive, 10, []int{2, 3, 4, 5, 1}},
		// Small 5 4 3 2 1: one count does not help.
		{three, 10, []int{1, 2, 3, 4, 5}},
	} {
		w := newTwin(t, c.kind, c.cap)
		w.come(1, 2, 3, 4, 5)
		w.touch(1)
		w.stand(1, 2, 3, 4, 5)
		w.goes(c.want...)
	}
	// 1 is asked for twice, and 4 comes back, with its number.
	for _, c := range []struct {
		kind int
		want []int
	}{
		// The row: 4 1 2 5 3.
		{plain, []int{3, 5, 2, 1, 4}},
		// Hot 4, warm 2 1, cold 5 3; when four are left, 4 and 1 go to cold.
		{segmented, []int{3, 5, 4, 1, 2}},
		// Once 5 3, again 4 1 2; P is 1.
		{adaptive, []int{3, 2, 1, 4, 5}},
		// Small 5 3 2 1, main 4; 1 goes to main's front.
		{three, []int{2, 3, 4, 1, 5}},
	} {
		w := newTwin(t, c.kind, 10)
		w.come(1, 2, 3, 4, 5)
		w.touch(2, 1, 1)
		w.evict(4)
		w.come(4)
		w.stand(1, 2, 3, 4, 5)
		w.goes(c.want...)
	}
}

// Of a plain one who came or was asked for last is the last one to go.
func TestPlain(t *testing.T) {
	w := newTwin(t, plain, 0)
	w.come(3, 1, 2)
	for range 3 {
		// Asking changes nothing.
		w.tells(9, 3)
	}
	w.touch(2)
	w.tells(9, 3)
	w.touch(3)
	w.tells(9, 1)
	w.touch(3)
	w.come(4)
	w.touch(1)
	w.evict(2)
	w.come(2)
	w.remove(4)
	w.come(4)
	w.stand(1, 2, 3, 4)
	w.goes(3, 1, 2, 4)
}

// Each id of short rows touched, removed and evicted.
func TestPlainEach(t *testing.T) {
	for n := 1; n <= 6; n++ {
		ids := from(1, n)
		for _, id := range ids {
			rest := without(ids, id)
			w := newTwin(t, plain, 0)
			w.come(ids...)
			w.touch(id)
			w.goes(append(slices.Clone(rest), id)...)
			w.come(ids...)
			w.remove(id)
			w.stand(rest...)
			w.goes(rest...)
			w.come(ids...)
			w.evict(id)
			w.stand(rest...)
			w.goes(rest...)
			w.come(ids...)
			w.evict(id)
			w.come(id)
			w.goes(append(slices.Clone(rest), id)...)
		}
	}
}

// from is so many ids from the first one on.
func from(first, n int) []int {
	var l []int
	for i := range n {
		l = append(l, first+i)
	}
	return l
}

func without(l []int, id int) []int {
	return slices.DeleteFunc(slices.Clone(l), func(n int) bool { return n == id })
}

// A segmented one's look takes up to five steps: who is told, look by look, while so many ids stand and these are active.
func TestSegmentedLook(t *testing.T) {
	for _, c := range []struct {
		ids, touched int // ids 1 to so many, of which the first so many are touched
		want         []int
	}{
		// None stands: no step.
		{0, 0, []int{-1, -1}},
		// One: a step to cold; or one to warm and one from there to cold.
		{1, 0, []int{1, 1}},
		{1, 1, []int{1, 1}},
		// Two: to cold; 1 by way of warm, behind 2.
		{2, 0, []int{1, 1}},
		{2, 1, []int{2, 2}},
		{2, 2, []int{1, 1}},
		// Five: four steps, and no more, then none.
		{5, 0, []int{1, 1}},
		{5, 1, []int{2, 2}},
		{5, 2, []int{3, 3}},
		// The fifth step is 1's from warm, which has three, to cold.
		{5, 3, []int{4, 4}},
		// Four are in warm: 1 goes to cold, at the next look 2, ahead of it.
		{5, 4, []int{1, 1}},
		// Six: just five steps; the fifth is 5's.
		{6, 0, []int{1, 1}},
		{6, 2, []int{3, 3}},
		{6, 4, []int{5, 5}},
		// 1 to 5 are in warm behind five steps: it is its end, as cold has none.
		{6, 5, []int{1, 1}},
		// Seven, and more: steps are left for the next look.
		{7, 0, []int{1, 1}},
		{7, 4, []int{5, 5}},
		{7, 5, []int{1, 6, 6}},
		{7, 6, []int{1, 1, 1}},
		{10, 0, []int{1, 1, 1}},
		{10, 4, []int{5, 5, 5}},
		{10, 5, []int{1, 6, 6}},
		{10, 6, []int{1, 7, 7}},
		{10, 8, []int{1, 1, 1}},
		{20, 10, []int{1, 1, 11, 11}},
		{20, 11, []int{1, 1, 12, 12}},
		{20, 15, []int{1, 1, 1, 16, 16}},
	} {
		w := newTwin(t, segmented, 0)
		w.come(from(1, c.ids)...)
		w.touch(from(1, c.touched)...)
		for i, want := range c.want {
			if id := w.victim(9); id != want {
				t.Errorf("O2: of %d ids, %d of them touched: look %d: Victim() = %d; want %d", c.ids, c.touched, i, id, want)
			}
		}
		w.stand(from(1, c.ids)...)
	}
}

// Those at the end of cold are spared, if they were asked for, as far as five steps go.
func TestSegmentedSpares(t *testing.T) {
	w := newTwin(t, segmented, 0)
	w.come(from(1, 10)...)
	w.tells(9, 1)
	// Cold 5 4 3 2 1; hot 10 9 8 7 6, of which three go, then no step is left to take.
	w.tells(9, 1)
	w.tells(9, 1)
	for i := 1; i <= 4; i++ {
		w.touch(i)
		// One step.
		w.tells(9, i+1)
	}
	// Warm 4 3 2 1, as many as it may have; cold 8 7 6 5: 5 goes to warm, 1 from there to cold.
	w.touch(5)
	w.tells(9, 6)
	w.goes(6, 7, 8, 1, 9, 2, 3, 10, 4, 5)

	// Five are spared; the sixth is not, though it is active.
	w = newTwin(t, segmented, 0)
	w.come(from(1, 10)...)
	w.tells(9, 1)
	w.tells(9, 1)
	w.touch(from(1, 8)...)
	w.tells(9, 6)
	// 1, 2 and 3 go from warm to cold, 6 and 7 to warm.
	w.tells(9, 8)
	w.stand(from(1, 10)...)
}

// The number that is to come matters for the adaptive kind alone: if once has just P, and it went from again.
func TestVictimNumber(t *testing.T) {
	numbers := []uint64{0, 1, 9, 10, 11, 12, 13, 14, greatest}
	ofEach(t, func(t *testing.T, kind int) {
		for _, h := range numbers {
			w := newTwin(t, kind, 2)
			w.insert(1, 11)
			w.evict(1)
			w.insert(1, 11) // P is 1
			w.insert(2, 12)
			w.touch(1)
			w.evict(1) // 11 is in B2
			w.insert(3, 13)
			w.touch(3)
			want := []int{2, 2, 3, 2}[kind]
			if kind == adaptive && h == 11 {
				want = 2
			}
			w.tells(h, want)
			w.tells(h, want)
			w.stand(2, 3)
		}
	})
}

// The number that is handed to Victim is not kept.
func TestVictimKeepsNothing(t *testing.T) {
	ofEach(t, func(t *testing.T, kind int) {
		a, b := mixed(t, kind), mixed(t, kind)
		for h := range uint64(40) {
			a.victim(h)
			b.victim(9)
		}
		if x, y := a.drain(), b.drain(); !slices.Equal(x, y) {
			t.Errorf("O2: victims are %v and %v", x, y)
		}
	})
}

// Evict of adaptive ones and of three lets the number come to a ghost, if there may be one there: who comes with it stands better. Remove does not; nor does any of the others.
func TestEvictAndRemove(t *testing.T) {
	for _, c := range []struct {
		cap   int
		evict bool
		want  [4]int
	}{
		{10, true, [4]int{2, 2, 1, 1}},
		{1, true, [4]int{2, 2, 1, 1}},
		{0, true, [4]int{2, 2, 2, 2}},
		{-1, true, [4]int{2, 2, 2, 2}},
		{math.MinInt, true, [4]int{2, 2, 2, 2}},
		{math.MaxInt, true, [4]int{2, 2, 1, 1}},
		{10, false, [4]int{2, 2, 2, 2}},
		{1, false, [4]int{2, 2, 2, 2}},
		{0, false, [4]int{2, 2, 2, 2}},
	} {
		ofEach(t, func(t *testing.T, kind int) {
			w := newTwin(t, kind, c.cap)
			w.come(2, 1)
			if c.evict {
				w.evict(1)
			} else {
				w.remove(1)
			}
			w.stand(2)
			w.come(1)
			w.stand(1, 2)
			w.tells(9, c.want[kind])
		})
	}
}

// Without a call of Cap the ghosts keep nothing.
func TestNoCap(t *testing.T) {
	ofEach(t, func(t *testing.T, kind int) {
		p := policy.New(kind)
		p.Insert(2, 12)
		p.Insert(1, 11)
		if !p.Evict(1) || !p.Insert(1, 11) {
			t.Error("O2: Evict or Insert of 1: false")
		}
		if id := p.Victim(9); id != 2 {
			t.Errorf("O2: Victim() = %d; want 2", id)
		}
	})
}

// Of plain and segmented ones Evict is as Remove.
func TestEvictAsRemove(t *testing.T) {
	for _, kind := range []int{plain, segmented} {
		for seed := range 40 {
			r := rand.New(rand.NewSource(int64(seed)))
			a, b := newTwin(t, kind, 8), newTwin(t, kind, 8)
			for range 300 {
				id, n := r.Intn(12), r.Intn(8)
				for _, w := range []*twin{a, b} {
					switch {
					case n < 3:
						w.come(id)
					case n < 5:
						w.touch(id)
					case n < 6:
						w.victim(uint64(id + 10))
					case w == a:
						w.evict(id)
					default:
						w.remove(id)
					}
					w.same(id)
				}
			}
			if x, y := a.drain(), b.drain(); !slices.Equal(x, y) {
				t.Fatalf("O2: of kind %d: behind Evict victims are %v; behind Remove %v", kind, x, y)
			}
		}
	}
}

// Cap changes nothing of plain and segmented ones.
func TestCapOfPlainAndSegmented(t *testing.T) {
	for _, kind := range []int{plain, segmented} {
		for seed := range 40 {
			r := rand.New(rand.NewSource(int64(seed)))
			a, b := newTwin(t, kind, 8), policy.New(kind)
			for range 300 {
				id, h := r.Intn(12), uint64(r.Intn(20))
				a.cap(r.Intn(20) - 3)
				var got, want any
				switch r.Intn(6) {
				case 0, 1:
					got, want = a.p.Insert(id, h), b.Insert(id, h)
					a.m.Insert(id, h)
				case 2:
					got, want = a.p.Touch(id), b.Touch(id)
					a.m.Touch(id)
				case 3:
					got, want = a.p.Evict(id), b.Evict(id)
					a.m.Evict(id)
				case 4:
					got, want = a.p.Remove(id), b.Remove(id)
					a.m.Remove(id)
				case 5:
					got, want = a.p.Victim(h), b.Victim(h)
					a.m.Victim(h)
				}
				if got != want {
					t.Fatalf("O2: of kind %d: with Cap: %v; without it: %v", kind, got, want)
				}
				a.cap([]int{0, -1, math.MinInt, math.MaxInt}[r.Intn(4)])
				a.same(id)
			}
			a.drain()
		}
	}
}

// Cap of adaptive ones and of three says how much the ghosts keep: the oldest numbers go.
func TestCap(t *testing.T) {
	ids := from(1, 6)
	for _, kind := range []int{adaptive, three} {
		for n := -2; n <= 8; n++ {
			for id := range 7 {
				w := newTwin(t, kind, 6)
				w.come(ids...)
				w.evict(ids...)
				w.cap(n)
				w.cap(6)
				w.come(7)
				// Of the numbers 11 to 16 the last n are there still.
				w.insert(8, uint64(id+10))
				want := 7
				if id > 0 && id > 6-n {
					want = 8
				}
				w.tells(9, want)
			}
		}
	}
}

// A cap that is less takes from P, and from small's share.
func TestCapMoves(t *testing.T) {
	w := newTwin(t, adaptive, 4)
	w.come(1, 2)
	w.evict(1, 2)
	w.come(1, 2) // P is 2: once may have two
	w.come(3, 4)
	w.tells(9, 1)
	w.cap(1)
	w.tells(9, 3)
	w.cap(4)
	// P stays at 1.
	w.tells(9, 3)
	w.cap(0)
	w.remove(4)
	w.tells(9, 3)

	w = newTwin(t, three, 30)
	w.come(1)
	w.evict(1)
	w.come(1) // main
	w.come(2, 3, 4)
	w.tells(9, 1)
	for _, c := range []struct{ cap, want int }{{29, 2}, {20, 2}, {30, 1}, {39, 1}, {0, 2}, {-7, 2}, {100, 1}, {math.MinInt, 2}, {math.MaxInt, 1}} {
		w.cap(c.cap)
		w.tells(9, c.want)
	}
}

// mixed is a policy of the kind, with ids that are asked for or not, and numbers that are kept or not: 1 to 9, 0 and the greatest one stand, 20 to 25 do not.
func mixed(t *testing.T, kind int) *twin {
	t.Helper()
	w := newTwin(t, kind, 12)
	w.come(20, 21, 22, 1, 2)
	w.touch(21, 22, 2)
	w.evict(20, 21, 22)
	w.come(3, 4, 0, 5)
	w.touch(3, 3, 0)
	w.victim(31)
	w.insert(6, 30)
	w.come(23, 7, 24)
	w.touch(24, 24, 4)
	w.remove(24)
	w.evict(23)
	w.come(25, 8, mostID, 9)
	w.touch(8, 8, 25, 25, 25, 2)
	w.evict(25)
	w.stand(0, 1, 2, 3, 4, 5, 6, 7, 8, 9, mostID)
	return w
}

// known are all numbers that mixed lets come.
var known = []uint64{10, 11, 12, 13, 14, 15, 17, 18, 19, 30, 31, 32, 33, 34, 35, mostID + 10}

// What may not be, or stands already, is not inserted; who does not stand is neither touched nor removed nor evicted. Nothing changes.
func TestWrong(t *testing.T) {
	ofEach(t, func(t *testing.T, kind int) {
		w := mixed(t, kind)
		standing := []int{0, 1, 2, 3, 4, 5, 6, 7, 8, 9, mostID}
		for _, id := range slices.Concat(noIDs, standing) {
			for _, h := range slices.Concat(known, []uint64{0, 9, greatest}) {
				if w.p.Insert(id, h) {
					t.Errorf("O2: Insert(%d, %d) = true", id, h)
				}
			}
		}
		w.stand(standing...)
		for _, id := range slices.Concat(noIDs, []int{20, 21, 22, 23, 24, 25, 100, mostID - 1}) {
			for range 3 {
				if w.p.Touch(id) || w.p.Remove(id) || w.p.Evict(id) || w.p.Has(id) {
					t.Errorf("O2: %d does not stand: Touch, Remove, Evict or Has: true", id)
				}
			}
		}
		w.stand(standing...)
		// Each has the number still with which it came.
		for _, id := range []int{5, 2, 8, 0} {
			w.evict(id)
			w.insert(id+50, uint64(id+10))
			w.victim(9)
		}
		w.recalled(known...)
	})
}

// Nothing of what is wrong comes to one without ids.
func TestWrongOfNone(t *testing.T) {
	ofEach(t, func(t *testing.T, kind int) {
		p := policy.New(kind)
		p.Cap(10)
		for _, id := range noIDs {
			if p.Insert(id, 1) || p.Touch(id) || p.Remove(id) || p.Evict(id) || p.Has(id) || p.Len() != 0 || p.Victim(1) != -1 {
				t.Errorf("O2: %d stands", id)
			}
		}
	})
}

// Who went stands no more, and may come anew, be it with another number.
func TestAnew(t *testing.T) {
	ofEach(t, func(t *testing.T, kind int) {
		for _, id := range []int{0, 1, 5, mostID - 1, mostID} {
			w := newTwin(t, kind, 3)
			for i, h := range []uint64{0, 1, 0, greatest, greatest, 1, 0} {
				w.insert(id, h)
				w.insert(id, h)
				w.insert(7, 77)
				w.stand(id, 7)
				for range i {
					w.touch(id)
				}
				if i%2 == 0 {
					w.evict(id)
					w.evict(id)
				} else {
					w.remove(id)
					w.remove(id)
				}
				w.touch(id)
				w.stand(7)
				w.tells(h, 7)
			}
			w.insert(id, 5)
			w.remove(7)
			w.tells(9, id)
			w.goes(id)
		}
	})
}

// One that stands alone is to go, however often it was asked for, and whichever number is to come.
func TestOne(t *testing.T) {
	ofEach(t, func(t *testing.T, kind int) {
		for _, id := range []int{0, 1, mostID} {
			for _, h := range []uint64{0, 1, 11, greatest} {
				for touches := range 5 {
					for _, back := range []bool{false, true} {
						w := newTwin(t, kind, 2)
						w.insert(id, h)
						if back {
							w.evict(id)
							w.insert(id, h)
						}
						for range touches {
							w.touch(id)
						}
						for range 3 {
							w.tells(h, id)
							w.tells(h+1, id)
							w.touch(id)
						}
						w.stand(id)
						w.evict(id)
						w.stand()
						w.tells(h, -1)
						w.insert(id, h)
						w.stand(id)
					}
				}
			}
		}
	})
}

// Victims go one by one till none stands, evicted or removed, some asked for between.
func TestVictimsGo(t *testing.T) {
	ofEach(t, func(t *testing.T, kind int) {
		for n := range 30 {
			for _, asked := range []int{0, 1, 2, 3, 7} {
				for _, evict := range []bool{false, true} {
					w := newTwin(t, kind, n)
					w.come(from(0, n)...)
					for i := range n {
						if asked > 0 && i%asked == 0 {
							w.touch(i, i/2, i)
						}
					}
					for left := n; left > 0; left-- {
						id := w.victim(uint64(left))
						if evict {
							w.evict(id)
						} else {
							w.remove(id)
						}
						w.same(id)
						if w.p.Len() != left-1 {
							t.Fatalf("O2: Len() = %d; want %d", w.p.Len(), left-1)
						}
						if asked == 2 {
							w.touch(left)
						}
					}
					w.tells(9, -1)
				}
			}
		}
	})
}

// The chapter's calls are all that there is.
func TestCalls(t *testing.T) {
	var calls []string
	for m := range reflect.TypeOf(policy.New(0)).Methods() {
		calls = append(calls, m.Name)
	}
	if want := []string{"Cap", "Evict", "Has", "Insert", "Len", "Remove", "Touch", "Victim"}; !slices.Equal(calls, want) {
		t.Errorf("O1, O2: the calls are %v; want %v", calls, want)
	}
	for _, f := range reflect.VisibleFields(reflect.TypeOf(policy.Policy{})) {
		if f.IsExported() {
			t.Errorf("O1: the field %s is given out", f.Name)
		}
	}
}

// All short scripts of two ids and two numbers, each held against the chapters' words.
func TestShortScripts(t *testing.T) {
	const calls, long = 12, 5
	scripts := 1
	for range long {
		scripts *= calls
	}
	ofEach(t, func(t *testing.T, kind int) {
		for script := range scripts {
			w := newTwin(t, kind, 2)
			for n, i := script, 0; i < long; i++ {
				switch call := n % calls; {
				case call < 4:
					w.insert(call/2, uint64(11+call%2))
				case call < 6:
					w.touch(call - 4)
				case call < 8:
					w.evict(call - 6)
				case call < 9:
					w.remove(0)
				case call < 10:
					w.evict(w.victim(11))
				case call < 11:
					w.victim(12)
				default:
					w.cap(1)
				}
				n /= calls
			}
			w.same(0, 1)
			w.victim(11)
		}
	})
}

// play makes a random call, of so many ids and numbers.
func (w *twin) play(r *rand.Rand, ids int) {
	w.t.Helper()
	id, h := r.Intn(ids), uint64(r.Intn(2*ids))
	if id == ids-1 {
		id = mostID
	}
	switch n := r.Intn(50); {
	case n < 14:
		w.insert(id, h)
	case n < 29:
		w.touch(id)
	case n < 31:
		w.remove(id)
	case n < 34:
		w.evict(id)
	case n < 38:
		w.victim(h)
	case n < 46:
		w.evict(w.victim(h))
		w.insert(id, h)
	case n < 47:
		w.cap(r.Intn(10*ids+2) - 1)
	case n < 48:
		w.cap(ids)
	default:
		w.insert(-1-id, h)
		w.insert(mostID+1+id, h)
		w.touch(-1-id, mostID+1+id)
		w.remove(-1-id, mostID+1+id)
		w.evict(-1-id, mostID+1+id)
	}
	w.same(id, r.Intn(ids), -1-id, mostID+1+id)
}

// Long scripts, each held against the chapters' words step by step.
func TestScripts(t *testing.T) {
	ofEach(t, func(t *testing.T, kind int) {
		for seed := range 80 {
			r := rand.New(rand.NewSource(int64(seed)))
			ids := 2 + seed/2
			w := newTwin(t, kind, ids)
			for range 400 {
				w.play(r, ids)
			}
			w.drain()
		}
	})
}

// Keys that are asked for as a cache is: those that are there are touched, others come in the victim's place.
func TestAsCache(t *testing.T) {
	ofEach(t, func(t *testing.T, kind int) {
		for _, size := range []int{1, 2, 10, 25, 60} {
			r := rand.New(rand.NewSource(int64(size)))
			w := newTwin(t, kind, size)
			ids, keys := map[uint64]int{}, make([]uint64, size)
			for i := range 2500 {
				h := uint64(r.Intn(1 + r.Intn(3*size)))
				if i/200%2 == 1 {
					h = uint64(1000 + i%(2*size))
				}
				if id, ok := ids[h]; ok {
					w.touch(id)
					continue
				}
				id := len(ids)
				if id == size {
					id = w.victim(h)
					w.evict(id)
					delete(ids, keys[id])
				}
				w.insert(id, h)
				ids[h], keys[id] = id, h
				w.same(id)
			}
		}
	})
}

// Whatever is called: who is to go stands, with some ids there is a victim, and who came stands till it is removed or evicted.
func TestFollows(t *testing.T) {
	ofEach(t, func(t *testing.T, kind int) {
		r := rand.New(rand.NewSource(8))
		p, stands := policy.New(kind), map[int]bool{}
		for range 20000 {
			id, h := r.Intn(14), uint64(r.Intn(20))
			switch n := r.Intn(12); {
			case n < 4:
				if p.Insert(id, h) == stands[id] {
					t.Fatalf("O2: Insert(%d, %d) = %v", id, h, stands[id])
				}
				stands[id] = true
			case n < 7:
				if p.Touch(id) != stands[id] {
					t.Fatalf("O2: Touch(%d) = %v", id, !stands[id])
				}
			case n < 8:
				if p.Remove(id) != stands[id] {
					t.Fatalf("O2: Remove(%d) = %v", id, !stands[id])
				}
				delete(stands, id)
			case n < 9:
				if p.Evict(id) != stands[id] {
					t.Fatalf("O2: Evict(%d) = %v", id, !stands[id])
				}
				delete(stands, id)
			case n < 10:
				p.Cap(r.Intn(30) - 2)
			default:
				v := p.Victim(h)
				if v < 0 && len(stands) > 0 || v >= 0 && !stands[v] || v < -1 {
					t.Fatalf("O2: Victim(%d) = %d of %v", h, v, stands)
				}
			}
			if p.Len() != len(stands) {
				t.Fatalf("O2: Len() = %d; want %d", p.Len(), len(stands))
			}
			for id := range 14 {
				if p.Has(id) != stands[id] {
					t.Fatalf("O2: Has(%d) = %v", id, !stands[id])
				}
			}
		}
	})
}

// Two of a kind have nothing to do with each other, though the ids and numbers be the same (R3).
func TestTwo(t *testing.T) {
	ofEach(t, func(t *testing.T, kind int) {
		a, b := newTwin(t, kind, 4), newTwin(t, kind, 4)
		a.come(2, 1)
		b.stand()
		b.tells(9, -1)
		b.touch(1, 2)
		b.evict(1)
		b.remove(2)
		a.stand(1, 2)
		a.evict(1)
		// A number that went from a does not come back to b.
		b.come(2, 1)
		b.tells(9, 2)
		a.stand(2)
		b.cap(0)
		b.remove(1, 2)
		a.come(1)
		a.stand(1, 2)
		a.tells(9, []int{2, 2, 1, 1}[kind])
		b.stand()
		r := rand.New(rand.NewSource(1))
		for range 3000 {
			w := a
			if r.Intn(2) == 0 {
				w = b
			}
			w.play(r, 10)
			a.same(1, 2)
			b.same(1, 2)
		}
		a.drain()
		b.drain()
	})
}

// The same calls have the same answers (R4).
func TestSameAgain(t *testing.T) {
	ofEach(t, func(t *testing.T, kind int) {
		a, b := newTwin(t, kind, 50), newTwin(t, kind, 50)
		for _, w := range []*twin{a, b} {
			r := rand.New(rand.NewSource(3))
			for range 2000 {
				w.play(r, 100)
			}
		}
		if x, y := a.drain(), b.drain(); !slices.Equal(x, y) {
			t.Errorf("R4: victims are %v and %v", x, y)
		}
	})
}

// Many ids stand, go, and come back.
func TestMany(t *testing.T) {
	const n, apart = 50000, 83
	ofEach(t, func(t *testing.T, kind int) {
		p := policy.New(kind)
		p.Cap(n)
		for i := range n {
			if !p.Insert(i*apart, uint64(i)) || p.Len() != i+1 {
				t.Fatalf("O2: Insert(%d, %d) = false, or Len() = %d", i*apart, i, p.Len())
			}
		}
		for i := range n {
			// None was asked for: they go as they came.
			if v := p.Victim(n); v != i*apart || !p.Has(v) || !p.Evict(v) || p.Has(v) || p.Len() != n-1-i {
				t.Fatalf("O2: Victim() = %d; want %d, and that it goes", v, i*apart)
			}
		}
		for i := range n {
			if !p.Insert(i, uint64(i)) || !p.Touch(i) {
				t.Fatalf("O2: Insert(%d, %d) or Touch = false", i, i)
			}
		}
		for left := n; left > 0; left-- {
			if v := p.Victim(n); !p.Has(v) || !p.Remove(v) {
				t.Fatalf("O2: Victim() = %d: it does not stand", v)
			}
		}
		if p.Len() != 0 || p.Victim(0) != -1 {
			t.Errorf("O2: %d are left", p.Len())
		}
	})
}
