package arc_test

import (
	"math"
	"math/rand"
	"reflect"
	"slices"
	"testing"

	"ambry/arc"
)

const (
	once     = 0
	again    = 1
	mostID   = 4194303
	greatest = math.MaxUint64
)

// noIDs are numbers that are no ids.
var noIDs = []int{-1, -2, -5, -mostID, mostID + 1, mostID + 2, mostID + 6, 1 << 32, 1<<32 + 5, -1 << 32, math.MaxInt, math.MinInt, math.MinInt + 1}

// noRows are numbers of rows that are not there.
var noRows = []int{-1, -2, -3, 2, 3, 4, 7, 8, 1 << 32, 1<<32 + 1, -1 << 32, math.MaxInt, math.MinInt}

// entry is an id with its number.
type entry struct {
	id int
	h  uint64
}

// plain is a policy by the chapter's words alone: each row a list from its front, each ghost a list from its oldest number.
type plain struct {
	row    [2][]entry
	ghost  [2][]uint64
	cap, p int
}

func (m *plain) Cap(n int) {
	m.cap = n
	if n < 0 {
		m.cap = 0
	}
	if m.p > m.cap {
		m.p = m.cap
	}
	m.trim()
}

func (m *plain) trim() {
	for b, l := range m.ghost {
		for len(l) > m.cap {
			l = l[1:]
		}
		m.ghost[b] = slices.Clone(l)
	}
}

func (m *plain) where(id int) int {
	return slices.IndexFunc(m.row[:], func(l []entry) bool {
		return slices.ContainsFunc(l, func(e entry) bool { return e.id == id })
	})
}

// out takes the id out of its row, and tells it with its number.
func (m *plain) out(id int) entry {
	row := m.where(id)
	i := slices.IndexFunc(m.row[row], func(e entry) bool { return e.id == id })
	e := m.row[row][i]
	m.row[row] = slices.Delete(slices.Clone(m.row[row]), i, i+1)
	return e
}

func (m *plain) front(row int, e entry) {
	m.row[row] = append([]entry{e}, m.row[row]...)
}

// forget takes the number out of the ghost.
func (m *plain) forget(b int, h uint64) {
	m.ghost[b] = slices.DeleteFunc(slices.Clone(m.ghost[b]), func(n uint64) bool { return n == h })
}

func (m *plain) Insert(id int, h uint64) bool {
	if id < 0 || id > mostID || m.where(id) >= 0 {
		return false
	}
	b1, b2 := len(m.ghost[0]), len(m.ghost[1])
	if slices.Contains(m.ghost[0], h) {
		if b2/b1 > 1 {
			m.p += b2 / b1
		} else {
			m.p++
		}
		if m.p > m.cap {
			m.p = m.cap
		}
		m.forget(0, h)
		m.front(again, entry{id, h})
	} else if slices.Contains(m.ghost[1], h) {
		if b1/b2 > 1 {
			m.p -= b1 / b2
		} else {
			m.p--
		}
		if m.p < 0 {
			m.p = 0
		}
		m.forget(1, h)
		m.front(again, entry{id, h})
	} else {
		m.front(once, entry{id, h})
	}
	return true
}

func (m *plain) Touch(id int) bool {
	if m.where(id) < 0 {
		return false
	}
	m.front(again, m.out(id))
	return true
}

func (m *plain) Remove(id int) bool {
	if m.where(id) < 0 {
		return false
	}
	m.out(id)
	return true
}

func (m *plain) end(row int) int {
	if l := m.row[row]; len(l) > 0 {
		return l[len(l)-1].id
	}
	return -1
}

func (m *plain) Victim(h uint64) int {
	n := len(m.row[once])
	if n > 0 && (n > m.p || n == m.p && slices.Contains(m.ghost[1], h) || len(m.row[again]) == 0) {
		return m.end(once)
	}
	return m.end(again)
}

func (m *plain) Evict(id int) bool {
	b := m.where(id)
	if b < 0 {
		return false
	}
	h := m.out(id).h
	m.forget(b, h)
	m.ghost[b] = append(m.ghost[b], h)
	m.trim()
	return true
}

// ids are those of the row, from the front.
func (m *plain) ids(row int) []int {
	var l []int
	for _, e := range m.row[row] {
		l = append(l, e.id)
	}
	return l
}

// state is all that a policy tells.
type state struct {
	once, again []int
	b1, b2      []uint64
	p           int
}

func (m *plain) state() state {
	return state{m.ids(once), m.ids(again), m.ghost[0], m.ghost[1], m.p}
}

func stateOf(p *arc.Policy) state {
	return state{p.All(once), p.All(again), p.Ghosts(0), p.Ghosts(1), p.Target()}
}

func (s state) equal(o state) bool {
	return slices.Equal(s.once, o.once) && slices.Equal(s.again, o.again) && slices.Equal(s.b1, o.b1) && slices.Equal(s.b2, o.b2) && s.p == o.p
}

// holds tells that this is what the policy tells.
func holds(t *testing.T, p *arc.Policy, want state) {
	t.Helper()
	if got := stateOf(p); !got.equal(want) {
		t.Fatalf("M1, M2: once, again, B1, B2, P: %v; want %v", got, want)
	}
}

// twin is a policy, beside what the chapter says of it.
type twin struct {
	t *testing.T
	p *arc.Policy
	m *plain
}

func newTwin(t *testing.T, cap int) *twin {
	t.Helper()
	p := arc.New()
	if p == nil {
		t.Fatal("M1: New() is nil")
	}
	w := &twin{t, p, &plain{}}
	w.cap(cap)
	return w
}

func (w *twin) cap(n int) {
	w.p.Cap(n)
	w.m.Cap(n)
}

func (w *twin) insert(id int, h uint64) {
	w.t.Helper()
	if ok, want := w.p.Insert(id, h), w.m.Insert(id, h); ok != want {
		w.t.Fatalf("M1: Insert(%d, %d) = %v; want %v", id, h, ok, want)
	}
}

func (w *twin) touch(ids ...int) {
	w.t.Helper()
	for _, id := range ids {
		if ok, want := w.p.Touch(id), w.m.Touch(id); ok != want {
			w.t.Fatalf("M1: Touch(%d) = %v; want %v", id, ok, want)
		}
	}
}

func (w *twin) remove(ids ...int) {
	w.t.Helper()
	for _, id := range ids {
		if ok, want := w.p.Remove(id), w.m.Remove(id); ok != want {
			w.t.Fatalf("M1: Remove(%d) = %v; want %v", id, ok, want)
		}
	}
}

func (w *twin) evict(ids ...int) {
	w.t.Helper()
	for _, id := range ids {
		if ok, want := w.p.Evict(id), w.m.Evict(id); ok != want {
			w.t.Fatalf("M1: Evict(%d) = %v; want %v", id, ok, want)
		}
	}
}

// same tells that the two are alike in all that they tell, of these numbers to come and all that ghosts have.
func (w *twin) same(numbers ...uint64) {
	w.t.Helper()
	holds(w.t, w.p, w.m.state())
	for _, h := range slices.Concat(numbers, w.m.ghost[0], w.m.ghost[1]) {
		if id, want := w.p.Victim(h), w.m.Victim(h); id != want {
			w.t.Fatalf("M1: Victim(%d) = %d; want %d; the state: %v", h, id, want, w.m.state())
		}
	}
}

const (
	scratch = 4000000 // the least id that is used to arrange with
	own     = 1000000 // the number of an id of the rows, less that id
)

// arranged is a policy of this cap in this state: its ids, below 1000, have numbers of their own.
func arranged(t *testing.T, cap int, s state) *twin {
	t.Helper()
	w := newTwin(t, cap)
	for range s.p {
		// Each number that comes back from B1, while B2 has none, makes P more by 1.
		w.insert(scratch, 1)
		w.evict(scratch)
		w.insert(scratch, 1)
		w.remove(scratch)
	}
	for i, h := range s.b1 {
		w.insert(scratch+i, h)
	}
	for i, h := range s.b2 {
		w.insert(scratch+1000+i, h)
		w.touch(scratch + 1000 + i)
	}
	for i := range s.b1 {
		w.evict(scratch + i)
	}
	for i := range s.b2 {
		w.evict(scratch + 1000 + i)
	}
	for _, id := range slices.Backward(s.again) {
		w.insert(id, own+uint64(id))
		w.touch(id)
	}
	for _, id := range slices.Backward(s.once) {
		w.insert(id, own+uint64(id))
	}
	holds(t, w.p, s)
	return w
}

// from is so many ids from the first one on.
func from(first, n int) []int {
	var l []int
	for i := range n {
		l = append(l, first+i)
	}
	return l
}

// numbers is so many numbers from the first one on.
func numbers(first uint64, n int) []uint64 {
	var l []uint64
	for i := range n {
		l = append(l, first+uint64(i))
	}
	return l
}

func without[T comparable](l []T, x T) []T {
	return slices.DeleteFunc(slices.Clone(l), func(y T) bool { return y == x })
}

func TestExample(t *testing.T) {
	p := arc.New()
	p.Cap(2)
	if !p.Insert(1, 11) || !p.Insert(2, 12) {
		t.Error("M1: Insert: false")
	}
	holds(t, p, state{once: []int{2, 1}})
	if id := p.Victim(13); id != 1 {
		t.Errorf("M1: Victim(13) = %d; want 1", id)
	}
	if !p.Evict(1) {
		t.Error("M1: Evict(1) = false")
	}
	holds(t, p, state{once: []int{2}, b1: []uint64{11}})
	if !p.Insert(3, 11) {
		t.Error("M1: Insert(3, 11) = false")
	}
	holds(t, p, state{once: []int{2}, again: []int{3}, p: 1})
	if id := p.Victim(14); id != 3 {
		t.Errorf("M1: Victim(14) = %d; want 3", id)
	}
}

// Without ids, nobody goes, and nothing is there.
func TestNew(t *testing.T) {
	p := arc.New()
	if p == nil {
		t.Fatal("M1: New() is nil")
	}
	for _, n := range []int{0, -1, 1, 5} {
		holds(t, p, state{})
		for _, h := range []uint64{0, 1, 11, greatest} {
			if id := p.Victim(h); id != -1 {
				t.Errorf("M1: without ids: Victim(%d) = %d; want -1", h, id)
			}
		}
		for _, id := range slices.Concat([]int{0, 1, 5, mostID}, noIDs) {
			if p.Touch(id) || p.Remove(id) || p.Evict(id) {
				t.Errorf("M1: without ids: Touch, Remove or Evict of %d: true", id)
			}
		}
		p.Cap(n)
	}
	holds(t, p, state{})
}

// The cap is 0 at first: no number is kept, so none comes back.
func TestCapAtFirst(t *testing.T) {
	p := arc.New()
	for id := range 3 {
		p.Insert(id, 11)
		if id == 2 {
			p.Touch(id)
		}
		if !p.Evict(id) {
			t.Fatalf("M1: Evict(%d) = false", id)
		}
		holds(t, p, state{})
	}
	if !p.Insert(1, 11) {
		t.Error("M1: Insert(1, 11) = false")
	}
	holds(t, p, state{once: []int{1}})
}

// Ids come to the front of once, one behind the other, whatever their numbers are.
func TestInsert(t *testing.T) {
	for _, cap := range []int{0, 1, 3, 100} {
		p := arc.New()
		p.Cap(cap)
		var want []int
		for i, id := range []int{7, 0, 3, mostID, 1, mostID - 1, 2} {
			h := []uint64{5, 0, greatest, 7, 5, 0, greatest}[i]
			if !p.Insert(id, h) {
				t.Errorf("M1: Insert(%d, %d) = false", id, h)
			}
			want = slices.Insert(want, 0, id)
			holds(t, p, state{once: want})
		}
	}
}

// The least id and the greatest one are ids like others.
func TestEdgesOfIDs(t *testing.T) {
	for _, id := range []int{0, 1, mostID - 1, mostID} {
		w := newTwin(t, 3)
		w.insert(id, 11)
		w.insert(5, 12)
		w.same(13)
		if w.p.Victim(13) != id {
			t.Errorf("M1: Victim(13) = %d; want %d", w.p.Victim(13), id)
		}
		w.evict(id)
		w.same(13)
		w.insert(id, 11)
		holds(t, w.p, state{once: []int{5}, again: []int{id}, p: 1})
		w.evict(id)
		holds(t, w.p, state{once: []int{5}, b2: []uint64{11}, p: 1})
		w.insert(id, 11)
		holds(t, w.p, state{once: []int{5}, again: []int{id}})
		w.remove(id)
		w.insert(id, 14)
		holds(t, w.p, state{once: []int{id, 5}})
		w.touch(id)
		holds(t, w.p, state{once: []int{5}, again: []int{id}})
		if w.p.Insert(id, 15) || !w.p.Touch(id) || !w.p.Remove(id) || w.p.Remove(id) || w.p.Touch(id) || w.p.Evict(id) {
			t.Errorf("M1: id %d is not as others are", id)
		}
	}
}

// The least number and the greatest one are numbers like others, in both ghosts.
func TestEdgesOfNumbers(t *testing.T) {
	for _, h := range []uint64{0, 1, 1 << 32, 1 << 63, greatest - 1, greatest} {
		w := newTwin(t, 4)
		w.insert(1, h)
		w.insert(2, h^1)
		w.evict(1)
		holds(t, w.p, state{once: []int{2}, b1: []uint64{h}})
		w.insert(1, h)
		holds(t, w.p, state{once: []int{2}, again: []int{1}, p: 1})
		w.same(0, h, greatest)
		w.evict(1)
		holds(t, w.p, state{once: []int{2}, b2: []uint64{h}, p: 1})
		w.same(0, h, greatest)
		w.insert(3, h^1)
		holds(t, w.p, state{once: []int{3, 2}, b2: []uint64{h}, p: 1})
		w.insert(4, h)
		holds(t, w.p, state{once: []int{3, 2}, again: []int{4}})
	}
}

// A ghost without numbers has not the number 0 either.
func TestNoughtIsNotThere(t *testing.T) {
	w := arranged(t, 5, state{once: []int{1}, again: []int{2}, p: 1})
	if id := w.p.Victim(0); id != 2 {
		t.Errorf("M1: Victim(0) = %d; want 2", id)
	}
	w.insert(3, 0)
	holds(t, w.p, state{once: []int{3, 1}, again: []int{2}, p: 1})
}

// Touch puts at the front of again, from wherever in once and again; ghosts and P stay.
func TestTouch(t *testing.T) {
	s := state{[]int{1, 2, 3}, []int{4, 5, 6}, []uint64{21, 22}, []uint64{23}, 2}
	for id := 1; id <= 6; id++ {
		w := arranged(t, 5, s)
		want := s
		want.once, want.again = without(s.once, id), slices.Insert(without(s.again, id), 0, id)
		for range 3 {
			if !w.p.Touch(id) {
				t.Fatalf("M1: Touch(%d) = false", id)
			}
			holds(t, w.p, want)
		}
	}
	w := arranged(t, 5, s)
	w.touch(3, 1, 2)
	holds(t, w.p, state{nil, []int{2, 1, 3, 4, 5, 6}, s.b1, s.b2, 2})
}

// To touch an id whose number a ghost has (two ids of one number) tells the ghost nothing.
func TestTouchLeavesGhosts(t *testing.T) {
	w := newTwin(t, 5)
	w.insert(1, 11)
	w.insert(2, 11)
	w.insert(3, 11)
	w.evict(1)
	w.touch(3)
	holds(t, w.p, state{[]int{2}, []int{3}, []uint64{11}, nil, 0})
	w.evict(3)
	w.touch(2)
	holds(t, w.p, state{nil, []int{2}, []uint64{11}, []uint64{11}, 0})
}

// Remove takes out of each row; the others, the ghosts and P stay as they are.
func TestRemove(t *testing.T) {
	s := state{[]int{1, 2, 3}, []int{4, 5, 6}, []uint64{21, 22}, []uint64{23}, 2}
	for id := 1; id <= 6; id++ {
		w := arranged(t, 5, s)
		if !w.p.Remove(id) {
			t.Fatalf("M1: Remove(%d) = false", id)
		}
		want := s
		want.once, want.again = without(s.once, id), without(s.again, id)
		for range 2 {
			holds(t, w.p, want)
			if w.p.Touch(id) || w.p.Remove(id) || w.p.Evict(id) {
				t.Fatalf("M1: removed, %d stands", id)
			}
		}
		// Its number was not kept: it comes to once.
		if !w.p.Insert(id, own+uint64(id)) {
			t.Fatalf("M1: removed, %d does not come anew", id)
		}
		want.once = slices.Insert(slices.Clone(want.once), 0, id)
		holds(t, w.p, want)
	}
}

// Remove leaves the id's own number in a ghost that has it.
func TestRemoveLeavesItsNumber(t *testing.T) {
	w := newTwin(t, 5)
	for id := range 4 {
		w.insert(id, 11)
	}
	w.evict(0)
	w.touch(1)
	w.evict(1)
	s := state{[]int{3, 2}, nil, []uint64{11}, []uint64{11}, 0}
	holds(t, w.p, s)
	w.touch(2)
	w.remove(2)
	w.remove(3)
	holds(t, w.p, state{b1: s.b1, b2: s.b2})
}

// Evict takes out of each row, and the number comes to that row's ghost as its newest one; P stays.
func TestEvict(t *testing.T) {
	s := state{[]int{1, 2, 3}, []int{4, 5, 6}, []uint64{21, 22}, []uint64{23}, 2}
	for id := 1; id <= 6; id++ {
		w := arranged(t, 5, s)
		if !w.p.Evict(id) {
			t.Fatalf("M1: Evict(%d) = false", id)
		}
		want := s
		want.once, want.again = without(s.once, id), without(s.again, id)
		if h := own + uint64(id); id <= 3 {
			want.b1 = append(slices.Clone(s.b1), h)
		} else {
			want.b2 = append(slices.Clone(s.b2), h)
		}
		for range 2 {
			holds(t, w.p, want)
			if w.p.Touch(id) || w.p.Remove(id) || w.p.Evict(id) {
				t.Fatalf("M1: evicted, %d stands", id)
			}
		}
	}
}

// The number is the one that the id came with, the last time: touched or not, and whatever numbers others came with.
func TestEvictedNumber(t *testing.T) {
	w := newTwin(t, 9)
	w.insert(1, 11)
	w.insert(2, 12)
	w.evict(1)
	w.insert(1, 13)
	w.evict(1)
	holds(t, w.p, state{once: []int{2}, b1: []uint64{11, 13}})
	w.insert(1, 14)
	w.remove(1)
	w.insert(1, 15)
	w.touch(1, 1)
	w.evict(1)
	holds(t, w.p, state{once: []int{2}, b1: []uint64{11, 13}, b2: []uint64{15}})
	// Refused, with another number: it keeps the one that it has.
	w.insert(2, 16)
	w.evict(2)
	holds(t, w.p, state{b1: []uint64{11, 13, 12}, b2: []uint64{15}})
	w.insert(2, 11)
	w.evict(2)
	holds(t, w.p, state{b1: []uint64{13, 12}, b2: []uint64{15, 11}, p: 1})
}

// A ghost has at most cap numbers: the oldest one goes; one that was there is the newest.
func TestGhostsAreBound(t *testing.T) {
	for row := range 2 {
		w := newTwin(t, 3)
		for id := range 5 {
			w.insert(id, uint64(11+id))
			if row == again {
				w.touch(id)
			}
		}
		w.insert(9, 13)
		if row == again {
			w.touch(9)
		}
		for i, want := range [][]uint64{{11}, {11, 12}, {11, 12, 13}, {12, 13, 14}, {13, 14, 15}, {14, 15, 13}} {
			w.evict([]int{0, 1, 2, 3, 4, 9}[i])
			if l := w.p.Ghosts(row); !slices.Equal(l, want) {
				t.Fatalf("M1: Ghosts(%d) = %v; want %v", row, l, want)
			}
			if l := w.p.Ghosts(1 - row); len(l) != 0 {
				t.Fatalf("M1: Ghosts(%d) = %v; want none", 1-row, l)
			}
		}
		w.same(11, 12)
		w.insert(5, 11)
		w.insert(6, 12)
		holds(t, w.p, w.m.state())
		if l := w.p.All(once); !slices.Equal(l, []int{6, 5}) {
			t.Fatalf("M1: All(0) = %v: what went out of the ghost comes back from it", l)
		}
	}
}

// A number that comes back from B1: P is more by 1 or by a quotient, of what they have with it; at most cap.
func TestBackFromB1(t *testing.T) {
	for _, c := range []struct{ cap, p, b1, b2, want int }{
		// By 1: B2 has none, fewer, as many, not twice as many.
		{9, 0, 1, 0, 1}, {9, 4, 3, 0, 5}, {9, 4, 3, 1, 5}, {9, 4, 3, 2, 5}, {9, 4, 3, 3, 5}, {9, 4, 3, 5, 5}, {9, 4, 4, 7, 5}, {9, 0, 1, 1, 1},
		// By a quotient, rounded down: twice as many and more.
		{9, 0, 1, 2, 2}, {9, 4, 1, 4, 8}, {9, 4, 2, 4, 6}, {9, 4, 2, 5, 6}, {9, 4, 2, 6, 7}, {9, 4, 3, 8, 6}, {9, 4, 3, 9, 7}, {9, 0, 1, 9, 9}, {9, 0, 4, 9, 2},
		// At most cap.
		{9, 8, 1, 0, 9}, {9, 9, 1, 0, 9}, {9, 8, 1, 3, 9}, {9, 9, 1, 9, 9}, {9, 6, 1, 4, 9}, {9, 5, 1, 4, 9}, {9, 4, 1, 6, 9}, {1, 0, 1, 1, 1}, {1, 1, 1, 1, 1}, {1, 1, 1, 0, 1},
	} {
		for place := range c.b1 {
			s := state{[]int{1, 2}, []int{3, 4}, numbers(21, c.b1), numbers(51, c.b2), c.p}
			w := arranged(t, c.cap, s)
			h := s.b1[place]
			if !w.p.Insert(7, h) {
				t.Fatalf("M1: Insert(7, %d) = false", h)
			}
			holds(t, w.p, state{[]int{1, 2}, []int{7, 3, 4}, without(s.b1, h), s.b2, c.want})
		}
	}
}

// A number that comes back from B2: P is less by 1 or by a quotient; at least 0.
func TestBackFromB2(t *testing.T) {
	for _, c := range []struct{ cap, p, b1, b2, want int }{
		// By 1: B1 has none, fewer, as many, not twice as many.
		{9, 5, 0, 1, 4}, {9, 5, 0, 3, 4}, {9, 5, 1, 3, 4}, {9, 5, 2, 3, 4}, {9, 5, 3, 3, 4}, {9, 5, 5, 3, 4}, {9, 5, 7, 4, 4}, {9, 9, 1, 1, 8}, {9, 1, 0, 1, 0},
		// By a quotient, rounded down: twice as many and more.
		{9, 5, 2, 1, 3}, {9, 5, 4, 1, 1}, {9, 5, 4, 2, 3}, {9, 5, 5, 2, 3}, {9, 5, 6, 2, 2}, {9, 5, 8, 3, 3}, {9, 5, 9, 3, 2}, {9, 9, 9, 1, 0}, {9, 9, 9, 4, 7},
		// At least 0.
		{9, 0, 0, 1, 0}, {9, 0, 1, 1, 0}, {9, 0, 9, 1, 0}, {9, 1, 2, 1, 0}, {9, 2, 3, 1, 0}, {9, 3, 3, 1, 0}, {9, 4, 6, 1, 0}, {1, 1, 1, 1, 0}, {1, 0, 1, 1, 0}, {1, 0, 0, 1, 0},
	} {
		for place := range c.b2 {
			s := state{[]int{1, 2}, []int{3, 4}, numbers(21, c.b1), numbers(51, c.b2), c.p}
			w := arranged(t, c.cap, s)
			h := s.b2[place]
			if !w.p.Insert(7, h) {
				t.Fatalf("M1: Insert(7, %d) = false", h)
			}
			holds(t, w.p, state{[]int{1, 2}, []int{7, 3, 4}, s.b1, without(s.b2, h), c.want})
		}
	}
}

// All lengths of both ghosts, and all P, of small caps: who comes back from either, and who comes new.
func TestAllGhosts(t *testing.T) {
	for cap := range 6 {
		for b1 := range cap + 1 {
			for b2 := range cap + 1 {
				for p := range cap + 1 {
					for _, h := range slices.Concat(numbers(21, b1), numbers(51, b2), []uint64{0, 9}) {
						w := arranged(t, cap, state{[]int{1}, []int{3}, numbers(21, b1), numbers(51, b2), p})
						w.insert(7, h)
						w.same(0, 9)
					}
				}
			}
		}
	}
}

// A number that came back is in its ghost no more: the next one of it is new.
func TestBackOnce(t *testing.T) {
	w := arranged(t, 9, state{b1: []uint64{21, 22}, b2: []uint64{51, 52}, p: 3})
	w.insert(1, 21)
	w.insert(2, 21)
	w.insert(3, 52)
	w.insert(4, 52)
	holds(t, w.p, state{[]int{4, 2}, []int{3, 1}, []uint64{22}, []uint64{51}, 3})
}

// A number that both ghosts have comes back from B1 first, from B2 then.
func TestInBothGhosts(t *testing.T) {
	w := newTwin(t, 9)
	for id := range 3 {
		w.insert(id, 11)
	}
	w.touch(0)
	w.evict(0, 1)
	holds(t, w.p, state{once: []int{2}, b1: []uint64{11}, b2: []uint64{11}})
	w.insert(0, 11)
	holds(t, w.p, state{[]int{2}, []int{0}, nil, []uint64{11}, 1})
	if id := w.p.Victim(11); id != 2 {
		t.Errorf("M1: Victim(11) = %d; want 2: once has just P, and B2 has 11", id)
	}
	w.insert(1, 11)
	holds(t, w.p, state{[]int{2}, []int{1, 0}, nil, nil, 0})
	w.insert(3, 11)
	holds(t, w.p, state{[]int{3, 2}, []int{1, 0}, nil, nil, 0})
}

// Two ids of one number: each goes for itself, a ghost has the number once.
func TestTwoOfOneNumber(t *testing.T) {
	w := newTwin(t, 9)
	w.insert(1, 11)
	w.insert(2, 12)
	w.insert(3, 11)
	holds(t, w.p, state{once: []int{3, 2, 1}})
	w.evict(1, 2, 3)
	holds(t, w.p, state{b1: []uint64{12, 11}})
	w.insert(1, 11)
	w.insert(3, 11)
	holds(t, w.p, state{[]int{3}, []int{1}, []uint64{12}, nil, 1})
	w.evict(3)
	holds(t, w.p, state{nil, []int{1}, []uint64{12, 11}, nil, 1})
	w.evict(1)
	holds(t, w.p, state{nil, nil, []uint64{12, 11}, []uint64{11}, 1})
	w.insert(4, 11)
	w.insert(5, 11)
	holds(t, w.p, state{nil, []int{5, 4}, []uint64{12}, nil, 1})
	w.remove(4)
	w.evict(5)
	holds(t, w.p, state{nil, nil, []uint64{12}, []uint64{11}, 1})
}

// The victim, case by case; whoever is asked for, nothing changes.
func TestVictim(t *testing.T) {
	b1, b2 := []uint64{21, 22}, []uint64{51, 52}
	for _, c := range []struct {
		s    state
		new  int // for a number that no ghost has
		inB1 int
		inB2 int
	}{
		// Once has more than P.
		{state{[]int{1, 2}, []int{3, 4}, b1, b2, 1}, 2, 2, 2},
		{state{[]int{1, 2}, []int{3, 4}, b1, b2, 0}, 2, 2, 2},
		{state{[]int{1}, []int{3, 4}, b1, b2, 0}, 1, 1, 1},
		{state{[]int{5, 6, 7, 0}, []int{3}, b1, b2, 3}, 0, 0, 0},
		// Just P: the number must be in B2.
		{state{[]int{1, 2}, []int{3, 4}, b1, b2, 2}, 4, 4, 2},
		{state{[]int{1}, []int{3, 4, 5}, b1, b2, 1}, 5, 5, 1},
		{state{[]int{1, 2, 3, 4}, []int{0}, b1, b2, 4}, 0, 0, 4},
		// Less than P.
		{state{[]int{1, 2}, []int{3, 4}, b1, b2, 3}, 4, 4, 4},
		{state{[]int{1}, []int{3, 4}, b1, b2, 2}, 4, 4, 4},
		{state{[]int{1}, []int{3}, b1, b2, 5}, 3, 3, 3},
		// Again has none: once, whatever P is.
		{state{[]int{1, 2}, nil, b1, b2, 0}, 2, 2, 2},
		{state{[]int{1, 2}, nil, b1, b2, 2}, 2, 2, 2},
		{state{[]int{1, 2}, nil, b1, b2, 3}, 2, 2, 2},
		{state{[]int{0}, nil, b1, b2, 5}, 0, 0, 0},
		// Once has none: again, also where it has just P, which is 0.
		{state{nil, []int{3, 4}, b1, b2, 0}, 4, 4, 4},
		{state{nil, []int{3, 4}, b1, b2, 1}, 4, 4, 4},
		{state{nil, []int{0}, b1, b2, 5}, 0, 0, 0},
		// None stands.
		{state{nil, nil, b1, b2, 0}, -1, -1, -1},
		{state{nil, nil, b1, b2, 5}, -1, -1, -1},
	} {
		w := arranged(t, 5, c.s)
		for range 2 {
			for h, want := range map[uint64]int{0: c.new, 9: c.new, greatest: c.new, own + 1: c.new, 21: c.inB1, 22: c.inB1, 51: c.inB2, 52: c.inB2} {
				if id := w.p.Victim(h); id != want {
					t.Errorf("M1: of %v: Victim(%d) = %d; want %d", c.s, h, id, want)
				}
				holds(t, w.p, c.s)
			}
		}
	}
}

// All states of few ids, with each P and cap, for each kind of number.
func TestAllVictims(t *testing.T) {
	for n := range 5 {
		for m := range 4 {
			for p := range 6 {
				for _, b2 := range [][]uint64{nil, {51}, {51, 52}} {
					w := arranged(t, 5, state{from(0, n), from(10, m), []uint64{21}, b2, p})
					w.same(0, 9, 21, 51, 52, own)
				}
			}
		}
	}
}

// Victims go one by one, till none stands: once as long as it has more than P, then again, then what is left of once.
func TestVictimsGo(t *testing.T) {
	w := arranged(t, 9, state{from(1, 5), from(6, 3), nil, nil, 2})
	for _, want := range []int{5, 4, 3, 8, 7, 6, 2, 1} {
		if id := w.p.Victim(99); id != want {
			t.Fatalf("M1: Victim(99) = %d; want %d", id, want)
		}
		w.evict(want)
		w.same(99)
	}
	if id := w.p.Victim(99); id != -1 {
		t.Errorf("M1: none stands: Victim(99) = %d; want -1", id)
	}
	holds(t, w.p, state{nil, nil, []uint64{own + 5, own + 4, own + 3, own + 2, own + 1}, []uint64{own + 8, own + 7, own + 6}, 2})
}

// The same, for a number that B2 has: once goes on as long as it has P or more.
func TestVictimsGoForB2(t *testing.T) {
	w := arranged(t, 9, state{from(1, 5), from(6, 3), nil, []uint64{51}, 2})
	for _, want := range []int{5, 4, 3, 2, 8, 7, 6, 1} {
		if id := w.p.Victim(51); id != want {
			t.Fatalf("M1: Victim(51) = %d; want %d", id, want)
		}
		w.evict(want)
		w.same(99)
	}
}

// Cap bounds the ghosts, of which the oldest numbers go, and P; who stands stays.
func TestCap(t *testing.T) {
	s := state{[]int{1, 2, 3}, []int{4, 5, 6, 7}, numbers(21, 6), numbers(51, 4), 5}
	for _, c := range []struct{ n, b1, b2, p int }{
		{7, 6, 4, 5}, {6, 6, 4, 5}, {5, 5, 4, 5}, {4, 4, 4, 4}, {3, 3, 3, 3}, {2, 2, 2, 2}, {1, 1, 1, 1}, {0, 0, 0, 0}, {-1, 0, 0, 0}, {-5, 0, 0, 0}, {math.MinInt, 0, 0, 0}, {math.MaxInt, 6, 4, 5}, {1 << 32, 6, 4, 5}, {-1 << 32, 0, 0, 0},
	} {
		w := arranged(t, 7, s)
		w.cap(c.n)
		want := state{s.once, s.again, s.b1[6-c.b1:], s.b2[4-c.b2:], c.p}
		holds(t, w.p, want)
		w.same(0, 21, 51)
		w.cap(c.n)
		holds(t, w.p, want)
		// What went does not come back when there is room again.
		w.cap(7)
		holds(t, w.p, want)
		w.insert(8, 21)
		w.insert(9, 51)
		w.same(0, 21, 51)
	}
}

// A cap below 0 is one of 0: nothing is kept, and P stays 0, till the cap is greater.
func TestCapBelowNought(t *testing.T) {
	for _, n := range []int{0, -1, -2, -7, math.MinInt} {
		w := arranged(t, 3, state{[]int{1, 2}, []int{3}, []uint64{21}, []uint64{51}, 1})
		w.cap(n)
		holds(t, w.p, state{once: []int{1, 2}, again: []int{3}})
		w.evict(1, 3)
		holds(t, w.p, state{once: []int{2}})
		w.insert(1, own+1)
		w.insert(3, own+3)
		w.insert(4, 21)
		w.insert(5, 51)
		holds(t, w.p, state{once: []int{5, 4, 3, 1, 2}})
		w.cap(1)
		w.evict(5, 4)
		holds(t, w.p, state{once: []int{3, 1, 2}, b1: []uint64{21}})
		w.insert(6, 21)
		holds(t, w.p, state{once: []int{3, 1, 2}, again: []int{6}, p: 1})
		w.evict(6)
		holds(t, w.p, state{once: []int{3, 1, 2}, b2: []uint64{21}, p: 1})
	}
}

// A cap that grows lets P and the ghosts grow, from where they are.
func TestCapGrows(t *testing.T) {
	w := arranged(t, 2, state{b1: []uint64{21, 22}, b2: []uint64{51}, p: 2})
	w.insert(1, 21)
	holds(t, w.p, state{again: []int{1}, b1: []uint64{22}, b2: []uint64{51}, p: 2})
	w.cap(3)
	holds(t, w.p, state{again: []int{1}, b1: []uint64{22}, b2: []uint64{51}, p: 2})
	w.insert(2, 22)
	holds(t, w.p, state{again: []int{2, 1}, b2: []uint64{51}, p: 3})
	w.evict(1, 2)
	holds(t, w.p, state{b2: []uint64{51, 21, 22}, p: 3})
}

// Of a very great cap P goes on by what it is told.
func TestGreatCap(t *testing.T) {
	w := newTwin(t, math.MaxInt)
	for id := range 50 {
		w.insert(id, uint64(id))
		w.touch(id)
	}
	w.insert(50, 50)
	for id := range 51 {
		w.evict(id)
	}
	w.insert(0, 50)
	if p := w.p.Target(); p != 50 {
		t.Errorf("M1: P is %d; want 50", p)
	}
	w.same(0)
}

// What may not be, or stands already, is not inserted, and nothing changes, though a ghost have the number.
func TestWrongInsert(t *testing.T) {
	s := state{[]int{1, 2, 0}, []int{4, 5, mostID}, []uint64{21, 22}, []uint64{51}, 2}
	w := arranged(t, 5, s)
	for _, id := range slices.Concat(noIDs, s.once, s.again) {
		for _, h := range []uint64{0, 9, 21, 22, 51, own + 1, own + 4, greatest} {
			if w.p.Insert(id, h) {
				t.Errorf("M1: Insert(%d, %d) = true", id, h)
			}
			holds(t, w.p, s)
		}
		if slices.Contains(noIDs, id) && (w.p.Touch(id) || w.p.Remove(id) || w.p.Evict(id)) {
			t.Errorf("M1: %d stands", id)
		}
	}
	// Each has still the number with which it came.
	w.evict(1, 5)
	holds(t, w.p, state{[]int{2, 0}, []int{4, mostID}, []uint64{21, 22, own + 1}, []uint64{51, own + 5}, 2})
	p := arc.New()
	for _, id := range noIDs {
		if p.Insert(id, 1) || p.Victim(1) != -1 {
			t.Errorf("M1: Insert(%d, 1) of an empty one let it in", id)
		}
		holds(t, p, state{})
	}
}

// Who does not stand is neither touched nor removed nor evicted, and that changes nothing.
func TestWrongTouchRemoveAndEvict(t *testing.T) {
	s := state{[]int{1, 2, 3}, []int{4, 5, 6}, []uint64{21, 22}, []uint64{51}, 2}
	w := arranged(t, 9, s)
	w.insert(10, 11)
	w.insert(11, 12)
	w.remove(10, 11)
	for _, id := range slices.Concat([]int{0, 7, 10, 11, scratch, mostID}, noIDs) {
		if w.p.Touch(id) || w.p.Remove(id) || w.p.Evict(id) {
			t.Errorf("M1: %d does not stand: Touch, Remove or Evict: true", id)
		}
		holds(t, w.p, s)
	}
	w.evict(1)
	s.once, s.b1 = []int{2, 3}, []uint64{21, 22, own + 1}
	w.evict(1)
	w.remove(1)
	w.touch(1)
	holds(t, w.p, s)
}

// Of a row that is not there nothing is told.
func TestWrongRows(t *testing.T) {
	s := state{[]int{1, 2, 3}, []int{4, 5, 6}, []uint64{21, 22}, []uint64{51}, 2}
	w := arranged(t, 9, s)
	for _, row := range noRows {
		for _, p := range []*arc.Policy{w.p, arc.New()} {
			if l := p.All(row); len(l) != 0 {
				t.Errorf("M2: All(%d) = %v; want none", row, l)
			}
			if l := p.Ghosts(row); len(l) != 0 {
				t.Errorf("M2: Ghosts(%d) = %v; want none", row, l)
			}
		}
		holds(t, w.p, s)
	}
}

// Ids are moved by the chapter's calls alone.
func TestCalls(t *testing.T) {
	var names []string
	for m := range reflect.TypeOf(arc.New()).Methods() {
		names = append(names, m.Name)
	}
	if want := []string{"All", "Cap", "Evict", "Ghosts", "Insert", "Remove", "Target", "Touch", "Victim"}; !slices.Equal(names, want) {
		t.Errorf("M1, M2: the calls are %v; want %v", names, want)
	}
	for _, f := range reflect.VisibleFields(reflect.TypeOf(arc.Policy{})) {
		if f.IsExported() {
			t.Errorf("M1: the field %s is given out", f.Name)
		}
	}
}

// All short scripts of two ids and two numbers, each held against the chapter's words.
func TestShortScripts(t *testing.T) {
	const calls, long = 11, 5
	scripts := 1
	for range long {
		scripts *= calls
	}
	for script := range scripts {
		w := newTwin(t, 2)
		for n, i := script, 0; i < long; i++ {
			switch call := n % calls; {
			case call < 4:
				w.insert(call/2, uint64(11+call%2))
			case call < 6:
				w.touch(call - 4)
			case call < 8:
				w.evict(call - 6)
			case call < 9:
				w.remove(0)
			case call < 10:
				w.evict(w.m.Victim(11))
			default:
				w.cap(1)
			}
			n /= calls
		}
		w.same(11, 12)
	}
}

// play makes a random call, of so many ids and numbers.
func (w *twin) play(r *rand.Rand, ids int) {
	w.t.Helper()
	id, h := r.Intn(ids), uint64(r.Intn(2*ids))
	if id == ids-1 {
		id = mostID
	}
	switch n := r.Intn(40); {
	case n < 14:
		w.insert(id, h)
	case n < 22:
		w.touch(id)
	case n < 24:
		w.remove(id)
	case n < 29:
		w.evict(id)
	case n < 37:
		w.evict(w.m.Victim(h))
		w.insert(id, h)
	case n < 38:
		w.cap(r.Intn(ids+2) - 1)
	case n < 39:
		w.cap(ids)
	default:
		w.insert(-1-id, h)
		w.insert(mostID+1+id, h)
		w.touch(-1-id, mostID+1+id)
		w.remove(-1-id, mostID+1+id)
		w.evict(-1-id, mostID+1+id)
	}
}

// Long scripts, each held against the chapter's words step by step.
func TestScripts(t *testing.T) {
	for seed := range 120 {
		r := rand.New(rand.NewSource(int64(seed)))
		ids := 2 + seed/2
		w := newTwin(t, ids/2)
		for range 500 {
			w.play(r, ids)
			w.same(uint64(r.Intn(2*ids)), greatest)
		}
	}
}

// Keys that are asked for as a cache is: those that are there are touched, others come in the victim's place; P goes up and down.
func TestAsCache(t *testing.T) {
	for _, size := range []int{1, 2, 10, 40} {
		r := rand.New(rand.NewSource(int64(size)))
		w := newTwin(t, size)
		at := map[uint64]int{}
		ups, downs, was := 0, 0, 0
		for i := range 4000 {
			h := uint64(r.Intn(1 + r.Intn(3*size)))
			if i/200%2 == 1 {
				h = uint64(1000 + i%(2*size))
			}
			if id, ok := at[h]; ok {
				w.touch(id)
			} else {
				id := len(at)
				if id == size {
					id = w.p.Victim(h)
					w.evict(id)
					for old, n := range at {
						if n == id {
							delete(at, old)
							break
						}
					}
				}
				w.insert(id, h)
				at[h] = id
			}
			w.same(h)
			if p := w.p.Target(); p > was {
				ups++
			} else if p < was {
				downs++
			}
			was = w.p.Target()
		}
		if ups == 0 || downs == 0 {
			t.Errorf("M1: of %d ids, P goes up %d times and down %d times", size, ups, downs)
		}
	}
}

// Whatever is called, P is from 0 to cap, no ghost has more than cap, and an id stands in one row at most.
func TestBounds(t *testing.T) {
	r := rand.New(rand.NewSource(8))
	p, cap := arc.New(), 0
	for range 20000 {
		id, h := r.Intn(12), uint64(r.Intn(20))
		switch r.Intn(8) {
		case 0:
			p.Remove(id)
		case 1:
			p.Touch(id)
		case 2:
			p.Evict(id)
		case 3, 4:
			p.Evict(p.Victim(h))
		case 5, 6:
			p.Insert(id, h)
		case 7:
			if r.Intn(20) == 0 {
				cap = r.Intn(8)
				p.Cap(cap)
			}
		}
		s := stateOf(p)
		if s.p < 0 || s.p > cap || len(s.b1) > cap || len(s.b2) > cap {
			t.Fatalf("M1: of cap %d: %v", cap, s)
		}
		ids := slices.Concat(s.once, s.again)
		slices.Sort(ids)
		if len(slices.Compact(slices.Clone(ids))) != len(ids) {
			t.Fatalf("M1: an id stands twice: %v", s)
		}
		if v := p.Victim(h); (v < 0) != (len(ids) == 0) || v >= 0 && !slices.Contains(ids, v) {
			t.Fatalf("M1: Victim(%d) = %d of %v", h, v, s)
		}
	}
}

// Two of them have nothing to do with each other, though the ids and numbers be the same (R3).
func TestTwo(t *testing.T) {
	a, b := newTwin(t, 3), newTwin(t, 3)
	a.insert(1, 11)
	a.insert(2, 12)
	a.touch(2)
	a.evict(1, 2)
	b.same(11, 12)
	b.insert(1, 11)
	holds(t, b.p, state{once: []int{1}})
	b.cap(0)
	holds(t, a.p, state{b1: []uint64{11}, b2: []uint64{12}})
	r := rand.New(rand.NewSource(1))
	for range 2000 {
		w := a
		if r.Intn(2) == 0 {
			w = b
		}
		w.play(r, 10)
		a.same(11, 12)
		b.same(11, 12)
	}
}

// What came out may be written over, and is not written over from within (R1).
func TestOwned(t *testing.T) {
	w := arranged(t, 9, state{from(1, 3), from(4, 3), numbers(21, 3), numbers(51, 3), 2})
	for i := range 6 {
		one, other := stateOf(w.p), stateOf(w.p)
		kept := state{slices.Clone(other.once), slices.Clone(other.again), slices.Clone(other.b1), slices.Clone(other.b2), other.p}
		for _, l := range [][]int{one.once, one.again} {
			for i := range l {
				l[i] = 77
			}
			_ = append(l[:0], 78, 79)
			_ = append(l, 80, 81)
		}
		for _, l := range [][]uint64{one.b1, one.b2} {
			for i := range l {
				l[i] = 77
			}
			_ = append(l[:0], 78, 79)
			_ = append(l, 80, 81)
		}
		if !other.equal(kept) {
			t.Fatalf("R1: two answers share what they tell: %v; was %v", other, kept)
		}
		w.same(77, 78, 79, 80, 81)
		w.insert(20+i, uint64(100+i))
		w.insert(30+i, uint64(21+i))
		w.touch(20 + i)
		w.evict(20 + i)
		if !other.equal(kept) {
			t.Fatalf("R1: answers changed: %v; was %v", other, kept)
		}
		w.evict(w.p.Victim(99))
		w.same(99)
	}
}

// The same calls have the same answers (R4).
func TestSameAgain(t *testing.T) {
	a, b := newTwin(t, 100), newTwin(t, 100)
	for _, w := range []*twin{a, b} {
		r := rand.New(rand.NewSource(3))
		for range 3000 {
			w.play(r, 200)
		}
	}
	if x, y := stateOf(a.p), stateOf(b.p); !x.equal(y) {
		t.Errorf("R4: %v and %v", x, y)
	}
}

// Many ids stand, are touched, go and come back.
func TestMany(t *testing.T) {
	const n, apart = 100000, 41
	p := arc.New()
	p.Cap(n)
	var ids [2][]int
	for i := range n {
		if !p.Insert(i*apart, uint64(i)) {
			t.Fatalf("M1: Insert(%d, %d) = false", i*apart, i)
		}
		row := once
		if i%4 == 0 {
			p.Touch(i * apart)
			row = again
		}
		ids[row] = append(ids[row], i*apart)
	}
	for _, row := range []int{once, again} {
		for _, id := range ids[row] {
			if v := p.Victim(n); v != id || !p.Evict(id) {
				t.Fatalf("M1: Victim(%d) = %d; want %d, and that it goes", n, v, id)
			}
		}
		if g := p.Ghosts(row); len(g) != len(ids[row]) || g[0] != uint64(ids[row][0]/apart) {
			t.Fatalf("M1: Ghosts(%d) has %d numbers; want %d", row, len(g), len(ids[row]))
		}
	}
	for i := range n {
		if !p.Insert(i, uint64(i)) {
			t.Fatalf("M1: Insert(%d, %d) = false", i, i)
		}
	}
	if len(p.All(once)) != 0 || len(p.All(again)) != n || len(p.Ghosts(0)) != 0 || len(p.Ghosts(1)) != 0 {
		t.Fatal("M1: not all numbers came back")
	}
}
