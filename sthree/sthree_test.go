package sthree_test

import (
	"math"
	"math/rand"
	"reflect"
	"slices"
	"testing"

	"ambry/sthree"
)

const (
	small    = 0
	main     = 1
	mostID   = 4194303
	greatest = math.MaxUint64
)

// noIDs are numbers that are no ids.
var noIDs = []int{-1, -2, -5, -mostID, mostID + 1, mostID + 2, mostID + 6, 1 << 32, 1<<32 + 5, -1 << 32, math.MaxInt, math.MinInt, math.MinInt + 1}

// noRows are numbers of rows that are not there.
var noRows = []int{-1, -2, -3, 2, 3, 4, 7, 8, 1 << 32, 1<<32 + 1, -1 << 32, math.MaxInt, math.MinInt}

// at is an id with its count.
type at struct{ id, count int }

// ats are ids with their counts, told by turns.
func ats(l ...int) []at {
	var out []at
	for pair := range slices.Chunk(l, 2) {
		out = append(out, at{pair[0], pair[1]})
	}
	return out
}

// state is all that a policy tells without looking: its rows from the front, its ghost from the oldest number.
type state struct {
	small, main []at
	ghost       []uint64
}

func (s state) equal(o state) bool {
	return slices.Equal(s.small, o.small) && slices.Equal(s.main, o.main) && slices.Equal(s.ghost, o.ghost)
}

func (s state) copy() state {
	return state{slices.Clone(s.small), slices.Clone(s.main), slices.Clone(s.ghost)}
}

func stateOf(p *sthree.Policy) state {
	row := func(row int) []at {
		var l []at
		for _, id := range p.All(row) {
			l = append(l, at{id, p.Count(id)})
		}
		return l
	}
	return state{row(small), row(main), p.Ghosts()}
}

// holds tells that this is what the policy tells.
func holds(t *testing.T, p *sthree.Policy, want state) {
	t.Helper()
	if got := stateOf(p); !got.equal(want) {
		t.Fatalf("N1 to N3: small, main, the ghost: %v; want %v", got, want)
	}
}

// plain is a policy by the chapter's words alone.
type plain struct {
	t *testing.T
	state
	number map[int]uint64
	cap    int
}

func (m *plain) row(id int) *[]at {
	for _, l := range []*[]at{&m.small, &m.main} {
		if slices.ContainsFunc(*l, func(a at) bool { return a.id == id }) {
			return l
		}
	}
	return nil
}

func (m *plain) trim() {
	for len(m.ghost) > m.cap {
		m.ghost = m.ghost[1:]
	}
}

func (m *plain) Cap(n int) {
	m.cap = n
	if n < 0 {
		m.cap = 0
	}
	m.trim()
}

func (m *plain) Insert(id int, h uint64) bool {
	if id < 0 || id > mostID || m.row(id) != nil {
		return false
	}
	m.number[id] = h
	if slices.Contains(m.ghost, h) {
		m.ghost = without(m.ghost, h)
		m.main = append([]at{{id, 0}}, m.main...)
	} else {
		m.small = append([]at{{id, 0}}, m.small...)
	}
	return true
}

func (m *plain) Touch(id int) bool {
	l := m.row(id)
	if l == nil {
		return false
	}
	for i, a := range *l {
		if a.id == id && a.count < 3 {
			(*l)[i].count++
		}
	}
	return true
}

func (m *plain) Remove(id int) bool {
	l := m.row(id)
	if l == nil {
		return false
	}
	*l = slices.DeleteFunc(slices.Clone(*l), func(a at) bool { return a.id == id })
	return true
}

func (m *plain) Evict(id int) bool {
	l := m.row(id)
	if l == &m.small {
		m.ghost = append(without(m.ghost, m.number[id]), m.number[id])
		m.trim()
	}
	return m.Remove(id)
}

// Victim looks again and again, at most four times for each id and once more (What follows).
func (m *plain) Victim() int {
	for looks := 4*(len(m.small)+len(m.main)) + 1; looks > 0; looks-- {
		share := m.cap / 10
		if share < 1 {
			share = 1
		}
		if n := len(m.small); n > 0 && (n > share || len(m.main) == 0) {
			a := m.small[n-1]
			if a.count < 2 {
				return a.id
			}
			m.small = m.small[:n-1]
			m.main = append([]at{{a.id, 0}}, m.main...)
		} else if n := len(m.main); n > 0 {
			a := m.main[n-1]
			if a.count == 0 {
				return a.id
			}
			m.main = append([]at{{a.id, a.count - 1}}, m.main[:n-1]...)
		} else {
			return -1
		}
	}
	m.t.Fatal("N2: looks do not end")
	return 0
}

func (m *plain) Count(id int) int {
	if l := m.row(id); l != nil {
		for _, a := range *l {
			if a.id == id {
				return a.count
			}
		}
	}
	return -1
}

// twin is a policy, beside what the chapter says of it.
type twin struct {
	t *testing.T
	p *sthree.Policy
	m *plain
}

func newTwin(t *testing.T, cap int) *twin {
	t.Helper()
	p := sthree.New()
	if p == nil {
		t.Fatal("N1: New() is nil")
	}
	w := &twin{t, p, &plain{t: t, number: map[int]uint64{}}}
	w.cap(cap)
	return w
}

func (w *twin) cap(n int) {
	w.p.Cap(n)
	w.m.Cap(n)
}

func (w *twin) insert(id int, h uint64) {
	w.t.Helper()
	if ok, want := w.p.Insert(id, h), w.m.Insert(id, h); ok != want {
		w.t.Fatalf("N1: Insert(%d, %d) = %v; want %v", id, h, ok, want)
	}
}

func (w *twin) touch(ids ...int) {
	w.t.Helper()
	for _, id := range ids {
		if ok, want := w.p.Touch(id), w.m.Touch(id); ok != want {
			w.t.Fatalf("N1: Touch(%d) = %v; want %v", id, ok, want)
		}
	}
}

func (w *twin) remove(ids ...int) {
	w.t.Helper()
	for _, id := range ids {
		if ok, want := w.p.Remove(id), w.m.Remove(id); ok != want {
			w.t.Fatalf("N1: Remove(%d) = %v; want %v", id, ok, want)
		}
	}
}

func (w *twin) evict(ids ...int) {
	w.t.Helper()
	for _, id := range ids {
		if ok, want := w.p.Evict(id), w.m.Evict(id); ok != want {
			w.t.Fatalf("N1: Evict(%d) = %v; want %v", id, ok, want)
		}
	}
}

// victim is who both tell, also when they are told again.
func (w *twin) victim() int {
	w.t.Helper()
	was := w.m.copy()
	want := w.m.Victim()
	for range 3 {
		if id := w.p.Victim(); id != want {
			w.t.Fatalf("N2: Victim() = %d; want %d; the state was %v, cap %d", id, want, was, w.m.cap)
		}
		w.same()
	}
	return want
}

// tells that this is the victim.
func (w *twin) tells(want int) {
	w.t.Helper()
	if id := w.victim(); id != want {
		w.t.Fatalf("N2: Victim() = %d; want %d", id, want)
	}
}

// same tells that the two are alike in all that they tell without looking.
func (w *twin) same(ids ...int) {
	w.t.Helper()
	holds(w.t, w.p, w.m.state)
	for _, id := range ids {
		if n, want := w.p.Count(id), w.m.Count(id); n != want {
			w.t.Fatalf("N3: Count(%d) = %d; want %d", id, n, want)
		}
	}
}

const (
	scratch = 4000000 // the least id that is used to arrange with
	own     = 1000000 // the number of an id of the rows, less that id
)

// arranged is a policy of this cap in this state: its ids, below 1000, have numbers of their own.
func arranged(t *testing.T, cap int, s state) *twin {
	t.Helper()
	w := newTwin(t, math.MaxInt)
	for _, a := range slices.Backward(s.main) {
		w.insert(scratch, own+uint64(a.id))
		w.evict(scratch)
		w.insert(a.id, own+uint64(a.id))
	}
	for _, h := range s.ghost {
		w.insert(scratch, h)
		w.evict(scratch)
	}
	for _, a := range slices.Backward(s.small) {
		w.insert(a.id, own+uint64(a.id))
	}
	for _, a := range slices.Concat(s.small, s.main) {
		for range a.count {
			w.touch(a.id)
		}
	}
	w.cap(cap)
	holds(t, w.p, s)
	return w
}

// fresh are so many ids from the first one on, with the count 0.
func fresh(first, n int) []at {
	var l []at
	for i := range n {
		l = append(l, at{first + i, 0})
	}
	return l
}

func without[T comparable](l []T, x T) []T {
	return slices.DeleteFunc(slices.Clone(l), func(y T) bool { return y == x })
}

// without is the state without this id.
func (s state) without(id int) state {
	s = s.copy()
	this := func(a at) bool { return a.id == id }
	s.small, s.main = slices.DeleteFunc(s.small, this), slices.DeleteFunc(s.main, this)
	return s
}

// mixed is a state with ids of all counts in both rows; few is its least cap.
var mixed = state{ats(1, 0, 2, 1, 3, 2, 4, 3), ats(5, 3, 6, 2, 7, 1, 8, 0), []uint64{21, 22, 23}}

const few = 3

func TestExample(t *testing.T) {
	p := sthree.New()
	p.Cap(10)
	if !p.Insert(1, 11) || !p.Insert(2, 12) || !p.Insert(3, 13) {
		t.Error("N1: Insert: false")
	}
	holds(t, p, state{small: ats(3, 0, 2, 0, 1, 0)})
	if !p.Touch(1) || !p.Touch(1) {
		t.Error("N1: Touch(1) = false")
	}
	holds(t, p, state{small: ats(3, 0, 2, 0, 1, 2)})
	if id := p.Victim(); id != 2 {
		t.Errorf("N2: Victim() = %d; want 2", id)
	}
	holds(t, p, state{small: ats(3, 0, 2, 0), main: ats(1, 0)})
	if !p.Evict(2) {
		t.Error("N1: Evict(2) = false")
	}
	holds(t, p, state{small: ats(3, 0), main: ats(1, 0), ghost: []uint64{12}})
	if id := p.Victim(); id != 1 {
		t.Errorf("N2: Victim() = %d; want 1", id)
	}
	if !p.Insert(4, 12) {
		t.Error("N1: Insert(4, 12) = false")
	}
	holds(t, p, state{small: ats(3, 0), main: ats(4, 0, 1, 0)})
}

// Without ids, nobody goes, and nothing is there.
func TestNew(t *testing.T) {
	p := sthree.New()
	if p == nil {
		t.Fatal("N1: New() is nil")
	}
	for _, n := range []int{0, -1, 1, 10, 100} {
		holds(t, p, state{})
		for range 2 {
			if id := p.Victim(); id != -1 {
				t.Errorf("N2: none stands: Victim() = %d; want -1", id)
			}
		}
		for _, id := range slices.Concat([]int{0, 1, 5, mostID}, noIDs) {
			if p.Touch(id) || p.Remove(id) || p.Evict(id) {
				t.Errorf("N1: none stands: Touch, Remove or Evict of %d: true", id)
			}
			if n := p.Count(id); n != -1 {
				t.Errorf("N3: none stands: Count(%d) = %d; want -1", id, n)
			}
		}
		p.Cap(n)
	}
	holds(t, p, state{})
}

// The cap is 0 at first: no number is kept, and small is to have one.
func TestCapAtFirst(t *testing.T) {
	p := sthree.New()
	p.Insert(1, 11)
	if !p.Evict(1) {
		t.Error("N1: Evict(1) = false")
	}
	holds(t, p, state{})
	p.Insert(1, 11)
	holds(t, p, state{small: ats(1, 0)})
	p.Touch(1)
	p.Touch(1)
	p.Insert(2, 12)
	if id := p.Victim(); id != 1 {
		t.Errorf("N2: Victim() = %d; want 1: it went to main, and small has one", id)
	}
	holds(t, p, state{small: ats(2, 0), main: ats(1, 0)})
}

// Ids come to the front of small, one behind the other, with the count 0, whatever their numbers are.
func TestInsert(t *testing.T) {
	for _, cap := range []int{-1, 0, 1, 3, 100} {
		p := sthree.New()
		p.Cap(cap)
		var want []at
		for i, id := range []int{7, 0, 3, mostID, 1, mostID - 1, 2} {
			h := []uint64{5, 0, greatest, 7, 5, 0, greatest}[i]
			if !p.Insert(id, h) {
				t.Errorf("N1: Insert(%d, %d) = false", id, h)
			}
			want = slices.Insert(want, 0, at{id, 0})
			holds(t, p, state{small: want})
		}
	}
}

// The least id and the greatest one are ids like others.
func TestEdgesOfIDs(t *testing.T) {
	for _, id := range []int{0, 1, mostID - 1, mostID} {
		w := newTwin(t, 3)
		w.insert(id, 11)
		w.insert(5, 12)
		w.tells(id)
		w.evict(id)
		holds(t, w.p, state{small: ats(5, 0), ghost: []uint64{11}})
		w.insert(id, 11)
		holds(t, w.p, state{small: ats(5, 0), main: ats(id, 0)})
		w.touch(id)
		w.insert(6, 13)
		holds(t, w.p, state{small: ats(6, 0, 5, 0), main: ats(id, 1)})
		w.remove(5)
		w.tells(id)
		holds(t, w.p, state{small: ats(6, 0), main: ats(id, 0)})
		w.evict(id)
		holds(t, w.p, state{small: ats(6, 0)})
		w.insert(id, 14)
		w.touch(id, id, id, id)
		holds(t, w.p, state{small: ats(id, 3, 6, 0)})
		w.remove(6)
		w.tells(id)
		holds(t, w.p, state{main: ats(id, 0)})
		if w.p.Insert(id, 15) || !w.p.Touch(id) || !w.p.Remove(id) || w.p.Remove(id) || w.p.Touch(id) || w.p.Evict(id) || w.p.Count(id) != -1 {
			t.Errorf("N1: id %d is not as others are", id)
		}
	}
}

// The least number and the greatest one are numbers like others.
func TestEdgesOfNumbers(t *testing.T) {
	for _, h := range []uint64{0, 1, 1 << 32, 1 << 63, greatest - 1, greatest} {
		w := newTwin(t, 4)
		w.insert(1, h)
		w.insert(2, h^1)
		w.evict(1)
		holds(t, w.p, state{small: ats(2, 0), ghost: []uint64{h}})
		w.insert(3, h^1)
		holds(t, w.p, state{small: ats(3, 0, 2, 0), ghost: []uint64{h}})
		w.insert(1, h)
		holds(t, w.p, state{small: ats(3, 0, 2, 0), main: ats(1, 0)})
		w.insert(4, h)
		holds(t, w.p, state{small: ats(4, 0, 3, 0, 2, 0), main: ats(1, 0)})
		w.evict(3, 4)
		holds(t, w.p, state{small: ats(2, 0), main: ats(1, 0), ghost: []uint64{h ^ 1, h}})
	}
}

// A ghost without numbers has not the number 0 either.
func TestNoughtIsNotThere(t *testing.T) {
	w := arranged(t, 5, state{small: ats(1, 0), main: ats(2, 0)})
	w.insert(3, 0)
	holds(t, w.p, state{small: ats(3, 0, 1, 0), main: ats(2, 0)})
}

// Touch makes the count one more, at most 3, and nothing else: all stand where they stood.
func TestTouch(t *testing.T) {
	for id := 1; id <= 8; id++ {
		w := arranged(t, few, mixed)
		want := mixed.copy()
		for range 5 {
			if !w.p.Touch(id) {
				t.Fatalf("N1: Touch(%d) = false", id)
			}
			for _, l := range [][]at{want.small, want.main} {
				for i, a := range l {
					if a.id == id {
						l[i].count = min(a.count+1, 3)
					}
				}
			}
			holds(t, w.p, want)
		}
		if n := w.p.Count(id); n != 3 {
			t.Fatalf("N1: touched again and again, %d has the count %d; want 3", id, n)
		}
	}
}

// Counts from 0 on, one by one, in small, and in main behind a look.
func TestCount(t *testing.T) {
	p := sthree.New()
	p.Insert(1, 11)
	count := func(want int) {
		t.Helper()
		if n := p.Count(1); n != want {
			t.Fatalf("N3: Count(1) = %d; want %d", n, want)
		}
	}
	for _, want := range []int{0, 1, 2, 3, 3, 3} {
		count(want)
		p.Touch(1)
	}
	if id := p.Victim(); id != 1 || !slices.Equal(p.All(main), []int{1}) {
		t.Fatalf("N2: Victim() = %d; want 1, in main", id)
	}
	for _, want := range []int{0, 1, 2, 3, 3} {
		count(want)
		p.Touch(1)
	}
	p.Victim()
	count(0)
	p.Remove(1)
	count(-1)
}

// Remove takes out of each row; the others and the ghost stay as they are.
func TestRemove(t *testing.T) {
	for id := 1; id <= 8; id++ {
		w := arranged(t, few, mixed)
		if !w.p.Remove(id) {
			t.Fatalf("N1: Remove(%d) = false", id)
		}
		want := mixed.without(id)
		for range 2 {
			holds(t, w.p, want)
			if w.p.Touch(id) || w.p.Remove(id) || w.p.Evict(id) || w.p.Count(id) != -1 {
				t.Fatalf("N1: removed, %d stands", id)
			}
		}
		// Its number was not kept: it comes to small, with the count 0.
		if !w.p.Insert(id, own+uint64(id)) {
			t.Fatalf("N1: removed, %d does not come anew", id)
		}
		want.small = slices.Insert(want.small, 0, at{id, 0})
		holds(t, w.p, want)
	}
}

// Remove leaves the id's own number in a ghost that has it.
func TestRemoveLeavesItsNumber(t *testing.T) {
	w := newTwin(t, 5)
	for id := range 4 {
		w.insert(id, 11)
	}
	w.evict(0)
	w.insert(0, 11)
	w.evict(1)
	holds(t, w.p, state{ats(3, 0, 2, 0), ats(0, 0), []uint64{11}})
	w.remove(2, 0)
	holds(t, w.p, state{small: ats(3, 0), ghost: []uint64{11}})
	w.remove(3)
	holds(t, w.p, state{ghost: []uint64{11}})
}

// Evict takes out of each row; of small the number comes to the ghost as its newest one, of main the ghost stays as it is.
func TestEvict(t *testing.T) {
	for id := 1; id <= 8; id++ {
		w := arranged(t, 9, mixed)
		if !w.p.Evict(id) {
			t.Fatalf("N1: Evict(%d) = false", id)
		}
		want := mixed.without(id)
		if id <= 4 {
			want.ghost = append(want.ghost, own+uint64(id))
		}
		for range 2 {
			holds(t, w.p, want)
			if w.p.Touch(id) || w.p.Remove(id) || w.p.Evict(id) || w.p.Count(id) != -1 {
				t.Fatalf("N1: evicted, %d stands", id)
			}
		}
		if !w.p.Insert(id, own+uint64(id)) {
			t.Fatalf("N1: evicted, %d does not come anew", id)
		}
		if id <= 4 {
			want.ghost = mixed.ghost
			want.main = slices.Insert(want.main, 0, at{id, 0})
		} else {
			want.small = slices.Insert(want.small, 0, at{id, 0})
		}
		holds(t, w.p, want)
	}
}

// Who came to main by a look, or back from the ghost, leaves no number there when it is evicted, though the ghost have it by another id.
func TestEvictOfMain(t *testing.T) {
	w := newTwin(t, 5)
	w.insert(1, 11)
	w.touch(1, 1)
	w.tells(1)
	holds(t, w.p, state{main: ats(1, 0)})
	w.evict(1)
	holds(t, w.p, state{})
	w.insert(1, 11)
	w.evict(1)
	w.insert(1, 11)
	w.insert(2, 11)
	w.insert(3, 12)
	w.evict(2, 3)
	holds(t, w.p, state{main: ats(1, 0), ghost: []uint64{11, 12}})
	w.evict(1)
	holds(t, w.p, state{ghost: []uint64{11, 12}})
}

// The number is the one that the id came with, the last time: touched or not, and whatever numbers others came with.
func TestEvictedNumber(t *testing.T) {
	w := newTwin(t, 9)
	w.insert(1, 11)
	w.insert(2, 12)
	w.evict(1)
	w.insert(1, 13)
	w.touch(1, 1, 1, 1)
	w.evict(1)
	holds(t, w.p, state{small: ats(2, 0), ghost: []uint64{11, 13}})
	w.insert(1, 14)
	w.remove(1)
	w.insert(1, 15)
	w.evict(1)
	holds(t, w.p, state{small: ats(2, 0), ghost: []uint64{11, 13, 15}})
	// Refused, with another number: it keeps the one that it has.
	w.insert(2, 16)
	w.insert(2, 11)
	holds(t, w.p, state{small: ats(2, 0), ghost: []uint64{11, 13, 15}})
	w.evict(2)
	holds(t, w.p, state{ghost: []uint64{11, 13, 15, 12}})
}

// The ghost has at most cap numbers: the oldest one goes; one that was there is the newest.
func TestGhostIsBound(t *testing.T) {
	w := newTwin(t, 3)
	for id := range 5 {
		w.insert(id, uint64(11+id))
	}
	w.insert(9, 13)
	for i, want := range [][]uint64{{11}, {11, 12}, {11, 12, 13}, {12, 13, 14}, {13, 14, 15}, {14, 15, 13}} {
		w.evict([]int{0, 1, 2, 3, 4, 9}[i])
		holds(t, w.p, state{w.m.small, nil, want})
	}
	// What went out of the ghost does not come back from it.
	w.insert(5, 11)
	w.insert(6, 12)
	holds(t, w.p, state{small: ats(6, 0, 5, 0), ghost: []uint64{14, 15, 13}})
}

// A number that comes back brings its id to the front of main, with the count 0, and the ghost loses it: the next one of it is new.
func TestBack(t *testing.T) {
	for _, h := range mixed.ghost {
		w := arranged(t, few, mixed)
		if !w.p.Insert(9, h) {
			t.Fatalf("N1: Insert(9, %d) = false", h)
		}
		want := mixed.copy()
		want.main = slices.Insert(want.main, 0, at{9, 0})
		want.ghost = without(want.ghost, h)
		holds(t, w.p, want)
		if !w.p.Insert(10, h) {
			t.Fatalf("N1: Insert(10, %d) = false", h)
		}
		want.small = slices.Insert(want.small, 0, at{10, 0})
		holds(t, w.p, want)
	}
}

// An id that comes anew has the count 0, whatever count it had, in whichever row it stood and comes to.
func TestInsertedAnew(t *testing.T) {
	for id := 1; id <= 8; id++ {
		for _, h := range []uint64{22, 99} {
			for _, evicts := range []bool{false, true} {
				w := arranged(t, 9, mixed)
				if evicts {
					w.evict(id)
				} else {
					w.remove(id)
				}
				w.insert(id, h)
				if n := w.p.Count(id); n != 0 {
					t.Errorf("N1: inserted anew, %d has the count %d; want 0", id, n)
				}
				row := small
				if h == 22 {
					row = main
				}
				if l := w.p.All(row); l[0] != id {
					t.Errorf("N1: inserted anew, %d does not stand at the front of row %d: %v", id, row, l)
				}
				w.same()
			}
		}
	}
}

// Two ids of one number: each goes for itself, the ghost has the number once.
func TestTwoOfOneNumber(t *testing.T) {
	w := newTwin(t, 9)
	w.insert(1, 11)
	w.insert(2, 12)
	w.insert(3, 11)
	holds(t, w.p, state{small: ats(3, 0, 2, 0, 1, 0)})
	w.touch(3)
	holds(t, w.p, state{small: ats(3, 1, 2, 0, 1, 0)})
	w.evict(1, 2)
	holds(t, w.p, state{small: ats(3, 1), ghost: []uint64{11, 12}})
	w.evict(3)
	holds(t, w.p, state{ghost: []uint64{12, 11}})
	w.insert(1, 11)
	w.insert(3, 11)
	holds(t, w.p, state{small: ats(3, 0), main: ats(1, 0), ghost: []uint64{12}})
	w.evict(3)
	w.insert(4, 11)
	holds(t, w.p, state{main: ats(4, 0, 1, 0), ghost: []uint64{12}})
	w.insert(5, 11)
	w.insert(6, 11)
	w.remove(5)
	holds(t, w.p, state{small: ats(6, 0), main: ats(4, 0, 1, 0), ghost: []uint64{12}})
	w.evict(4, 6)
	holds(t, w.p, state{main: ats(1, 0), ghost: []uint64{12, 11}})
}

// Small gives as long as it has more than the greater one of 1 and a tenth of cap, rounded down; else main does, if it has some.
func TestTenth(t *testing.T) {
	for _, c := range []struct{ cap, share int }{
		{math.MinInt, 1}, {-100, 1}, {-20, 1}, {-1, 1}, {0, 1}, {1, 1}, {9, 1}, {10, 1}, {11, 1}, {19, 1},
		{20, 2}, {21, 2}, {29, 2}, {30, 3}, {39, 3}, {99, 9}, {100, 10}, {109, 10}, {110, 11}, {1000, 100},
	} {
		for _, n := range []int{1, 2, 3, c.share - 1, c.share, c.share + 1, c.share + 2} {
			if n < 1 {
				continue
			}
			s := state{small: fresh(1, n), main: fresh(500, 2)}
			want := 501
			if n > c.share {
				want = n
			}
			w := arranged(t, c.cap, s)
			w.tells(want)
			holds(t, w.p, s)
			// With none in main, small gives however few it has.
			w = arranged(t, c.cap, state{small: s.small})
			w.tells(n)
			holds(t, w.p, state{small: s.small})
		}
	}
	w := arranged(t, math.MaxInt, state{small: fresh(1, 400), main: fresh(500, 2)})
	w.tells(501)
}

// What the tenth is of is the cap as it is when it is looked for, not how many stand, nor what the ghost has.
func TestTenthOfCapNow(t *testing.T) {
	s := state{fresh(1, 3), fresh(500, 50), []uint64{21}}
	w := arranged(t, 10, s)
	w.tells(3)
	w.cap(30)
	w.tells(549)
	w.cap(29)
	w.tells(3)
	w.cap(-30)
	w.tells(3)
	w.cap(math.MaxInt)
	w.tells(549)
	holds(t, w.p, state{s.small, s.main, nil})
}

// The victim, case by case, and where the look leaves all that stand. The cap is 20: small is to have 2.
func TestVictim(t *testing.T) {
	for _, c := range []struct {
		was  state
		want int
		then state
	}{
		// The end of small, by its count; main has none.
		{state{small: ats(1, 0)}, 1, state{small: ats(1, 0)}},
		{state{small: ats(1, 1)}, 1, state{small: ats(1, 1)}},
		{state{small: ats(1, 2)}, 1, state{main: ats(1, 0)}},
		{state{small: ats(1, 3)}, 1, state{main: ats(1, 0)}},
		{state{small: ats(2, 3, 1, 0)}, 1, state{small: ats(2, 3, 1, 0)}},
		{state{small: ats(2, 3, 1, 1)}, 1, state{small: ats(2, 3, 1, 1)}},
		// One that goes to main is the victim then, if small has not more than two behind it.
		{state{small: ats(2, 0, 1, 2)}, 1, state{small: ats(2, 0), main: ats(1, 0)}},
		{state{small: ats(3, 0, 2, 1, 1, 3)}, 1, state{small: ats(3, 0, 2, 1), main: ats(1, 0)}},
		{state{small: ats(4, 0, 3, 0, 2, 1, 1, 2)}, 2, state{small: ats(4, 0, 3, 0, 2, 1), main: ats(1, 0)}},
		{state{small: ats(4, 3, 3, 3, 2, 3, 1, 3)}, 1, state{small: ats(4, 3, 3, 3), main: ats(2, 0, 1, 0)}},
		{state{small: ats(5, 2, 4, 1, 3, 3, 2, 0, 1, 2)}, 2, state{small: ats(5, 2, 4, 1, 3, 3, 2, 0), main: ats(1, 0)}},
		// Small has too many: who goes to main stands at its front.
		{state{small: ats(3, 0, 2, 0, 1, 0), main: ats(9, 0)}, 1, state{small: ats(3, 0, 2, 0, 1, 0), main: ats(9, 0)}},
		{state{small: ats(3, 0, 2, 0, 1, 1), main: ats(9, 0)}, 1, state{small: ats(3, 0, 2, 0, 1, 1), main: ats(9, 0)}},
		{state{small: ats(3, 0, 2, 0, 1, 2), main: ats(9, 0)}, 9, state{small: ats(3, 0, 2, 0), main: ats(1, 0, 9, 0)}},
		{state{small: ats(3, 0, 2, 0, 1, 3), main: ats(9, 0)}, 9, state{small: ats(3, 0, 2, 0), main: ats(1, 0, 9, 0)}},
		{state{small: ats(3, 0, 2, 0, 1, 3), main: ats(9, 2)}, 1, state{small: ats(3, 0, 2, 0), main: ats(9, 1, 1, 0)}},
		{state{small: ats(4, 3, 3, 2, 2, 3, 1, 2), main: ats(9, 1, 8, 1)}, 1, state{small: ats(4, 3, 3, 2), main: ats(9, 0, 8, 0, 2, 0, 1, 0)}},
		// Small has not: main, by the count at its end.
		{state{small: ats(2, 0, 1, 0), main: ats(9, 0, 8, 0)}, 8, state{small: ats(2, 0, 1, 0), main: ats(9, 0, 8, 0)}},
		{state{small: ats(2, 0, 1, 3), main: ats(9, 3, 8, 0)}, 8, state{small: ats(2, 0, 1, 3), main: ats(9, 3, 8, 0)}},
		{state{small: ats(1, 3), main: ats(9, 0, 8, 1)}, 9, state{small: ats(1, 3), main: ats(8, 0, 9, 0)}},
		{state{small: ats(1, 0), main: ats(9, 0, 8, 2)}, 9, state{small: ats(1, 0), main: ats(8, 1, 9, 0)}},
		{state{small: ats(1, 0), main: ats(9, 0, 8, 3)}, 9, state{small: ats(1, 0), main: ats(8, 2, 9, 0)}},
		{state{main: ats(9, 0, 8, 0, 7, 1, 6, 3)}, 8, state{main: ats(7, 0, 6, 2, 9, 0, 8, 0)}},
		// A look that goes through main more than once.
		{state{main: ats(9, 0)}, 9, state{main: ats(9, 0)}},
		{state{main: ats(9, 1)}, 9, state{main: ats(9, 0)}},
		{state{main: ats(9, 2)}, 9, state{main: ats(9, 0)}},
		{state{main: ats(9, 3)}, 9, state{main: ats(9, 0)}},
		{state{main: ats(9, 3, 8, 3)}, 8, state{main: ats(9, 0, 8, 0)}},
		{state{main: ats(9, 2, 8, 3)}, 9, state{main: ats(8, 0, 9, 0)}},
		{state{main: ats(9, 3, 8, 2, 7, 3)}, 8, state{main: ats(7, 0, 9, 1, 8, 0)}},
		{state{small: ats(2, 3, 1, 3), main: ats(9, 1, 8, 2, 7, 3)}, 9, state{small: ats(2, 3, 1, 3), main: ats(8, 0, 7, 1, 9, 0)}},
		// None stands.
		{state{}, -1, state{}},
	} {
		for _, ghost := range [][]uint64{nil, {21, 22}} {
			c.was.ghost, c.then.ghost = ghost, ghost
			w := arranged(t, 20, c.was)
			if id := w.p.Victim(); id != c.want {
				t.Errorf("N2: of %v: Victim() = %d; want %d", c.was, id, c.want)
			}
			holds(t, w.p, c.then)
			if id := w.p.Victim(); id != c.want {
				t.Errorf("N2: of %v: Victim() told again = %d; want %d", c.was, id, c.want)
			}
			holds(t, w.p, c.then)
		}
	}
}

// Whichever counts few ids have, of shares of one and two.
func TestAllVictims(t *testing.T) {
	counts := func(first, n int, code int) []at {
		l := fresh(first, n)
		for i := range l {
			l[i].count = code % 4
			code /= 4
		}
		return l
	}
	for _, cap := range []int{0, 19, 20} {
		for n := range 4 {
			for m := range 4 {
				for code := range 1 << (2 * (n + m)) {
					w := arranged(t, cap, state{small: counts(1, n, code), main: counts(11, m, code>>(2*n))})
					w.victim()
				}
			}
		}
	}
}

// Victims go one by one till none stands: small till it has its share, then main, then what is left of small.
func TestVictimsGo(t *testing.T) {
	w := arranged(t, 20, state{small: fresh(1, 5), main: fresh(6, 3)})
	for _, want := range []int{5, 4, 3, 8, 7, 6, 2, 1} {
		w.tells(want)
		w.evict(want)
		w.same(want)
	}
	w.tells(-1)
	holds(t, w.p, state{ghost: []uint64{own + 5, own + 4, own + 3, own + 2, own + 1}})
}

// The same, where counts give some of them another turn.
func TestVictimsGoByCounts(t *testing.T) {
	w := arranged(t, 20, state{small: ats(1, 3, 2, 0, 3, 2, 4, 1, 5, 2), main: ats(6, 1, 7, 0, 8, 2)})
	// At 2 and 1 nobody looks, as long as main has some.
	for _, want := range []int{4, 7, 5, 3, 6, 8, 2, 1} {
		w.tells(want)
		w.evict(want)
		w.same(want)
	}
	w.tells(-1)
	// The others went from main, 3, 5 and 1 too: their numbers are not kept.
	holds(t, w.p, state{ghost: []uint64{own + 4, own + 2}})
}

// Cap bounds the ghost, of which the oldest numbers go; who stands stays, with its count.
func TestCap(t *testing.T) {
	s := mixed.copy()
	s.ghost = []uint64{21, 22, 23, 24, 25, 26}
	for _, c := range []struct{ n, left int }{
		{7, 6}, {6, 6}, {5, 5}, {4, 4}, {3, 3}, {2, 2}, {1, 1}, {0, 0}, {-1, 0}, {-5, 0}, {math.MinInt, 0}, {math.MaxInt, 6}, {1 << 32, 6}, {-1 << 32, 0},
	} {
		w := arranged(t, 7, s)
		w.cap(c.n)
		want := state{s.small, s.main, s.ghost[6-c.left:]}
		holds(t, w.p, want)
		w.cap(c.n)
		holds(t, w.p, want)
		// What went does not come back when there is room again.
		w.cap(7)
		holds(t, w.p, want)
		w.insert(9, 21)
		w.insert(10, 26)
		w.same(9, 10)
		w.victim()
	}
}

// A cap below 0 is one of 0: nothing is kept till the cap is greater.
func TestCapBelowNought(t *testing.T) {
	for _, n := range []int{0, -1, -2, -7, math.MinInt} {
		w := arranged(t, few, mixed)
		w.cap(n)
		holds(t, w.p, state{mixed.small, mixed.main, nil})
		w.evict(1, 2, 5)
		w.insert(1, own+1)
		w.insert(9, 21)
		want := state{small: ats(9, 0, 1, 0, 3, 2, 4, 3), main: ats(6, 2, 7, 1, 8, 0)}
		holds(t, w.p, want)
		w.tells(1)
		w.cap(1)
		w.evict(9, 1)
		w.insert(10, 21)
		w.insert(11, own+1)
		w.same(9, 1, 10, 11)
		if !slices.Equal(w.p.All(small), []int{10}) || w.p.All(main)[0] != 11 {
			t.Fatalf("N1: of cap 1: %v", stateOf(w.p))
		}
	}
}

// What may not be, or stands already, is not inserted, and nothing changes, though the ghost have the number.
func TestWrongInsert(t *testing.T) {
	s := state{ats(1, 3, 2, 1, 0, 0), ats(4, 2, 5, 0, mostID, 1), []uint64{21, 22}}
	w := arranged(t, 5, s)
	for _, id := range slices.Concat(noIDs, []int{1, 2, 0, 4, 5, mostID}) {
		for _, h := range []uint64{0, 9, 21, 22, own + 1, own + 4, greatest} {
			if w.p.Insert(id, h) {
				t.Errorf("N1: Insert(%d, %d) = true", id, h)
			}
			holds(t, w.p, s)
		}
		if slices.Contains(noIDs, id) && (w.p.Touch(id) || w.p.Remove(id) || w.p.Evict(id) || w.p.Count(id) != -1) {
			t.Errorf("N1: %d stands", id)
		}
	}
	// Each has still the number with which it came.
	w.evict(1, 5)
	holds(t, w.p, state{ats(2, 1, 0, 0), ats(4, 2, mostID, 1), []uint64{21, 22, own + 1}})
	p := sthree.New()
	for _, id := range noIDs {
		if p.Insert(id, 1) || p.Victim() != -1 || p.Count(id) != -1 {
			t.Errorf("N1: Insert(%d, 1) of an empty one let it in", id)
		}
		holds(t, p, state{})
	}
}

// Who does not stand is neither touched nor removed nor evicted, has no count, and that changes nothing.
func TestWrongTouchRemoveAndEvict(t *testing.T) {
	w := arranged(t, 9, mixed)
	w.insert(10, 21)
	w.insert(11, 12)
	w.remove(10, 11)
	s := mixed.copy()
	s.ghost = []uint64{22, 23}
	for _, id := range slices.Concat([]int{0, 9, 10, 11, scratch, mostID}, noIDs) {
		if w.p.Touch(id) || w.p.Remove(id) || w.p.Evict(id) {
			t.Errorf("N1: %d does not stand: Touch, Remove or Evict: true", id)
		}
		if n := w.p.Count(id); n != -1 {
			t.Errorf("N3: %d does not stand: Count: %d; want -1", id, n)
		}
		holds(t, w.p, s)
	}
	w.evict(1)
	w.insert(2, own+1)
	for range 2 {
		w.evict(1)
		w.remove(1)
		w.touch(1)
	}
	s = s.without(1)
	s.ghost = []uint64{22, 23, own + 1}
	holds(t, w.p, s)
}

// Of a row that is not there nothing is told.
func TestWrongRows(t *testing.T) {
	w := arranged(t, few, mixed)
	for _, row := range noRows {
		for _, p := range []*sthree.Policy{w.p, sthree.New()} {
			if l := p.All(row); len(l) != 0 {
				t.Errorf("N3: All(%d) = %v; want none", row, l)
			}
		}
		holds(t, w.p, mixed)
	}
}

// Ids are moved by the chapter's calls alone.
func TestCalls(t *testing.T) {
	var names []string
	for m := range reflect.TypeOf(sthree.New()).Methods() {
		names = append(names, m.Name)
	}
	if want := []string{"All", "Cap", "Count", "Evict", "Ghosts", "Insert", "Remove", "Touch", "Victim"}; !slices.Equal(names, want) {
		t.Errorf("N1 to N3: the calls are %v; want %v", names, want)
	}
	for _, f := range reflect.VisibleFields(reflect.TypeOf(sthree.Policy{})) {
		if f.IsExported() {
			t.Errorf("N1: the field %s is given out", f.Name)
		}
	}
}

// All short scripts of two ids and two numbers, each held against the chapter's words.
func TestShortScripts(t *testing.T) {
	const calls, long = 11, 5
	scripts := 1
	for range long {
		scripts *= calls
	}
	for script := range scripts {
		w := newTwin(t, 2)
		for n, i := script, 0; i < long; i++ {
			switch call := n % calls; {
			case call < 4:
				w.insert(call/2, uint64(11+call%2))
			case call < 6:
				w.touch(call-4, call-4)
			case call < 8:
				w.evict(call - 6)
			case call < 9:
				w.remove(0)
			case call < 10:
				w.evict(w.victim())
			default:
				w.cap(1)
			}
			n /= calls
		}
		w.same(0, 1)
		w.victim()
	}
}

// play makes a random call, of so many ids and numbers.
func (w *twin) play(r *rand.Rand, ids int) {
	w.t.Helper()
	id, h := r.Intn(ids), uint64(r.Intn(2*ids))
	if id == ids-1 {
		id = mostID
	}
	switch n := r.Intn(50); {
	case n < 14:
		w.insert(id, h)
	case n < 29:
		w.touch(id)
	case n < 31:
		w.remove(id)
	case n < 34:
		w.evict(id)
	case n < 38:
		w.victim()
	case n < 46:
		w.evict(w.victim())
		w.insert(id, h)
	case n < 47:
		w.cap(r.Intn(10*ids+2) - 1)
	case n < 48:
		w.cap(ids)
	default:
		w.insert(-1-id, h)
		w.insert(mostID+1+id, h)
		w.touch(-1-id, mostID+1+id)
		w.remove(-1-id, mostID+1+id)
		w.evict(-1-id, mostID+1+id)
	}
	w.same(id, r.Intn(ids), -1-id, mostID+1+id)
}

// Long scripts, each held against the chapter's words step by step.
func TestScripts(t *testing.T) {
	for seed := range 120 {
		r := rand.New(rand.NewSource(int64(seed)))
		ids := 2 + seed/2
		w := newTwin(t, ids)
		for range 500 {
			w.play(r, ids)
		}
	}
}

// Keys that are asked for as a cache is: those that are there are touched, others come in the victim's place.
func TestAsCache(t *testing.T) {
	for _, size := range []int{1, 2, 10, 19, 20, 50} {
		r := rand.New(rand.NewSource(int64(size)))
		w := newTwin(t, size)
		ids, keys := map[uint64]int{}, make([]uint64, size)
		hits, back := 0, 0
		for i := range 4000 {
			h := uint64(r.Intn(1 + r.Intn(3*size)))
			if i/200%2 == 1 {
				h = uint64(1000 + i%(2*size))
			}
			if id, ok := ids[h]; ok {
				w.touch(id)
				hits++
				continue
			}
			id := len(ids)
			if id == size {
				id = w.victim()
				w.evict(id)
				delete(ids, keys[id])
			}
			if slices.Contains(w.m.ghost, h) {
				back++
			}
			w.insert(id, h)
			ids[h], keys[id] = id, h
			w.same(id)
		}
		if hits == 0 || back == 0 {
			t.Errorf("N1: of %d ids, %d are touched and %d come back", size, hits, back)
		}
	}
}

// Whatever is called, the ghost has not more than cap, an id stands in one row at most, counts are 0 to 3, and a victim stands.
func TestBounds(t *testing.T) {
	r := rand.New(rand.NewSource(8))
	p, cap := sthree.New(), 0
	for range 20000 {
		id, h := r.Intn(12), uint64(r.Intn(20))
		switch r.Intn(9) {
		case 0:
			p.Remove(id)
		case 1, 2, 3:
			p.Touch(id)
		case 4:
			p.Evict(id)
		case 5:
			p.Evict(p.Victim())
		case 6, 7:
			p.Insert(id, h)
		case 8:
			if r.Intn(20) == 0 {
				cap = r.Intn(40)
				p.Cap(cap)
			}
		}
		s := stateOf(p)
		if len(s.ghost) > cap {
			t.Fatalf("N1: of cap %d: %v", cap, s)
		}
		stands := map[int]bool{}
		for _, a := range slices.Concat(s.small, s.main) {
			if stands[a.id] || a.count < 0 || a.count > 3 {
				t.Fatalf("N1: %d stands twice, or has not a count from 0 to 3: %v", a.id, s)
			}
			stands[a.id] = true
		}
		if v := p.Victim(); v < 0 && len(stands) > 0 || v >= 0 && !stands[v] || v < -1 {
			t.Fatalf("N2: Victim() = %d of %v", v, s)
		}
	}
}

// Two of them have nothing to do with each other, though the ids and numbers be the same (R3).
func TestTwo(t *testing.T) {
	a, b := newTwin(t, 3), newTwin(t, 3)
	a.insert(1, 11)
	a.insert(2, 12)
	a.touch(2, 2)
	a.evict(1)
	b.same(1, 2)
	b.tells(-1)
	a.tells(2)
	b.insert(1, 11)
	b.insert(2, 11)
	holds(t, b.p, state{small: ats(2, 0, 1, 0)})
	b.cap(0)
	holds(t, a.p, state{main: ats(2, 0), ghost: []uint64{11}})
	r := rand.New(rand.NewSource(1))
	for range 2000 {
		w := a
		if r.Intn(2) == 0 {
			w = b
		}
		w.play(r, 10)
		a.same(1, 2)
		b.same(1, 2)
	}
}

// What came out may be written over, and is not written over from within (R1).
func TestOwned(t *testing.T) {
	w := arranged(t, 9, mixed)
	for i := range 6 {
		rows := [][]int{w.p.All(small), w.p.All(main), w.p.All(small), w.p.All(main)}
		ghosts := [][]uint64{w.p.Ghosts(), w.p.Ghosts()}
		kept := [][]int{slices.Clone(rows[2]), slices.Clone(rows[3])}
		numbers := slices.Clone(ghosts[1])
		for _, l := range rows[:2] {
			for i := range l {
				l[i] = 77
			}
			_ = append(l[:0], 78, 79)
			_ = append(l, 80, 81)
		}
		for i := range ghosts[0] {
			ghosts[0][i] = 77
		}
		_ = append(ghosts[0][:0], 78, 79)
		_ = append(ghosts[0], 80, 81)
		w.same(77, 78, 79, 80, 81)
		w.insert(20+i, uint64(100+i))
		w.insert(30+i, 21)
		w.touch(20 + i)
		w.evict(20 + i)
		w.evict(w.victim())
		w.same(77, 78, 79, 80, 81)
		if !slices.Equal(rows[2], kept[0]) || !slices.Equal(rows[3], kept[1]) || !slices.Equal(ghosts[1], numbers) {
			t.Fatalf("R1: answers changed: %v %v; were %v %v", rows[2:], ghosts[1], kept, numbers)
		}
	}
}

// The same calls have the same answers (R4).
func TestSameAgain(t *testing.T) {
	a, b := newTwin(t, 100), newTwin(t, 100)
	for _, w := range []*twin{a, b} {
		r := rand.New(rand.NewSource(3))
		for range 3000 {
			w.play(r, 200)
		}
	}
	if x, y := stateOf(a.p), stateOf(b.p); !x.equal(y) {
		t.Errorf("R4: %v and %v", x, y)
	}
}

// Many ids stand, are touched, go and come back; a look goes through all of them.
func TestMany(t *testing.T) {
	const n, apart = 100000, 41
	p := sthree.New()
	p.Cap(n)
	for i := range n {
		if !p.Insert(i*apart, uint64(i)) {
			t.Fatalf("N1: Insert(%d, %d) = false", i*apart, i)
		}
	}
	for i := range n {
		if v := p.Victim(); v != i*apart || !p.Evict(v) {
			t.Fatalf("N2: Victim() = %d; want %d, and that it goes", v, i*apart)
		}
	}
	if l := p.Ghosts(); len(l) != n || l[0] != 0 || l[n-1] != n-1 {
		t.Fatalf("N3: Ghosts() has %d numbers; want %d", len(l), n)
	}
	for i := range n {
		if !p.Insert(i, uint64(i)) {
			t.Fatalf("N1: Insert(%d, %d) = false", i, i)
		}
		for range 4 {
			p.Touch(i)
		}
	}
	if len(p.All(small)) != 0 || len(p.All(main)) != n || len(p.Ghosts()) != 0 {
		t.Fatal("N1: not all numbers came back")
	}
	if v := p.Victim(); v != 0 || p.Count(n-1) != 0 {
		t.Fatalf("N2: Victim() = %d; want 0, and that all counts are 0", v)
	}
}
