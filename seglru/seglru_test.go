package seglru_test

import (
	"maps"
	"math"
	"math/rand"
	"reflect"
	"slices"
	"testing"

	"ambry/seglru"
)

const (
	hot    = 0
	warm   = 1
	cold   = 2
	mostID = 4194303
)

// noIDs are numbers that are no ids.
var noIDs = []int{-1, -2, -5, -mostID, mostID + 1, mostID + 2, mostID + 6, 1 << 32, 1<<32 + 5, -1 << 32, math.MaxInt, math.MinInt, math.MinInt + 1}

// noRows are numbers of rows that are not there.
var noRows = []int{-1, -2, -3, -4, 3, 4, 5, 7, 8, 1 << 32, 1<<32 + 1, -1 << 32, math.MaxInt, math.MinInt}

// plain is a policy by the chapter's words alone: the three rows, each a list of ids from its front, and who is active.
type plain struct {
	row    [3][]int
	active map[int]int
}

func newPlain() *plain { return &plain{active: map[int]int{}} }

func (m *plain) where(id int) int {
	return slices.IndexFunc(m.row[:], func(l []int) bool { return slices.Contains(l, id) })
}

func (m *plain) out(id int) {
	for row, l := range m.row {
		m.row[row] = slices.DeleteFunc(slices.Clone(l), func(n int) bool { return n == id })
	}
}

func (m *plain) front(row, id int) {
	m.out(id)
	m.row[row] = append([]int{id}, m.row[row]...)
}

func (m *plain) Insert(id int) bool {
	if id < 0 || id > mostID || m.where(id) >= 0 {
		return false
	}
	m.front(hot, id)
	return true
}

func (m *plain) Touch(id int) bool {
	if m.where(id) < 0 {
		return false
	}
	m.active[id] = 1
	return true
}

func (m *plain) Remove(id int) bool {
	if m.where(id) < 0 {
		return false
	}
	m.out(id)
	delete(m.active, id)
	return true
}

func (m *plain) end(row int) int {
	if l := m.row[row]; len(l) > 0 {
		return l[len(l)-1]
	}
	return -1
}

func (m *plain) Victim() int {
	for _, row := range []int{cold, warm, hot} {
		if id := m.end(row); id >= 0 {
			return id
		}
	}
	return -1
}

// Step is the three cases, one behind the other.
func (m *plain) Step() bool {
	n := len(m.ids())
	if len(m.row[hot]) > 20*n/100 {
		m.leave(hot)
		return true
	}
	if len(m.row[warm]) > 40*n/100 {
		m.leave(warm)
		return true
	}
	if len(m.row[cold]) > 0 && m.active[m.end(cold)] == 1 {
		m.leave(cold)
		return true
	}
	return false
}

// leave is what becomes of the id at the end of the row.
func (m *plain) leave(row int) {
	id := m.end(row)
	if m.active[id] == 1 {
		m.front(warm, id)
	} else {
		m.front(cold, id)
	}
	delete(m.active, id)
}

func (m *plain) ids() []int { return slices.Concat(m.row[:]...) }

// twin is a policy, beside what the chapter says of it.
type twin struct {
	t *testing.T
	p *seglru.Policy
	m *plain
}

func newTwin(t *testing.T) *twin {
	t.Helper()
	p := seglru.New()
	if p == nil {
		t.Fatal("L1: New() is nil")
	}
	return &twin{t, p, newPlain()}
}

func (w *twin) insert(ids ...int) {
	w.t.Helper()
	for _, id := range ids {
		if ok, want := w.p.Insert(id), w.m.Insert(id); ok != want {
			w.t.Fatalf("L1: Insert(%d) = %v; want %v", id, ok, want)
		}
	}
}

func (w *twin) touch(ids ...int) {
	w.t.Helper()
	for _, id := range ids {
		if ok, want := w.p.Touch(id), w.m.Touch(id); ok != want {
			w.t.Fatalf("L1: Touch(%d) = %v; want %v", id, ok, want)
		}
	}
}

func (w *twin) remove(ids ...int) {
	w.t.Helper()
	for _, id := range ids {
		if ok, want := w.p.Remove(id), w.m.Remove(id); ok != want {
			w.t.Fatalf("L1: Remove(%d) = %v; want %v", id, ok, want)
		}
	}
}

func (w *twin) step() bool {
	w.t.Helper()
	ok, want := w.p.Step(), w.m.Step()
	if ok != want {
		w.t.Fatalf("L2: Step() = %v; want %v; the rows: %v", ok, want, w.m.row)
	}
	return ok
}

// same tells that the two are alike in all that they tell, of these ids and all that stand.
func (w *twin) same(others ...int) {
	w.t.Helper()
	for row, want := range w.m.row {
		if l := w.p.All(row); !slices.Equal(l, want) {
			w.t.Fatalf("L3: All(%d) = %v; want %v", row, l, want)
		}
	}
	for _, id := range slices.Concat(others, w.m.ids()) {
		if active, want := w.p.Active(id), w.m.active[id] == 1; active != want {
			w.t.Fatalf("L3: Active(%d) = %v; want %v", id, active, want)
		}
	}
	if id, want := w.p.Victim(), w.m.Victim(); id != want {
		w.t.Fatalf("L1: Victim() = %d; want %d; the rows: %v", id, want, w.m.row)
	}
}

// arranged is a policy with these rows (from the front) and these active ids, of ids below 1000.
func arranged(t *testing.T, rows [3][]int, active ...int) *twin {
	t.Helper()
	w := newTwin(t)
	filler := 1000
	for _, row := range []int{warm, cold} {
		// Each id that comes with ten fillers behind it is pushed out of hot by them, while nothing else moves.
		for _, id := range slices.Backward(rows[row]) {
			w.insert(id)
			if row == warm {
				w.touch(id)
			}
		}
	}
	moves := len(rows[warm]) + len(rows[cold])
	for range 10 * moves {
		w.insert(filler)
		filler++
	}
	for range moves {
		w.step()
	}
	for ; filler > 1000; filler-- {
		w.remove(filler - 1)
	}
	for _, id := range slices.Backward(rows[hot]) {
		w.insert(id)
	}
	w.touch(active...)
	holds(t, w.p, rows, active)
	return w
}

// holds tells that these are the rows, and these of their ids the active ones.
func holds(t *testing.T, p *seglru.Policy, rows [3][]int, active []int) {
	t.Helper()
	for row, want := range rows {
		l := p.All(row)
		if !slices.Equal(l, want) {
			t.Fatalf("L3: All(%d) = %v; want %v", row, l, want)
		}
		for _, id := range l {
			if is, want := p.Active(id), slices.Contains(active, id); is != want {
				t.Fatalf("L3: Active(%d) = %v; want %v", id, is, want)
			}
		}
	}
}

// from is so many ids from the first one on.
func from(first, n int) []int {
	var l []int
	for i := range n {
		l = append(l, first+i)
	}
	return l
}

func TestExample(t *testing.T) {
	p := seglru.New()
	for id := 1; id <= 5; id++ {
		if !p.Insert(id) {
			t.Errorf("L1: Insert(%d) = false", id)
		}
	}
	holds(t, p, [3][]int{{5, 4, 3, 2, 1}, nil, nil}, nil)
	for i, want := range [][3][]int{
		{{5, 4, 3, 2}, nil, {1}}, {{5, 4, 3}, nil, {2, 1}}, {{5, 4}, nil, {3, 2, 1}}, {{5}, nil, {4, 3, 2, 1}},
	} {
		if !p.Step() {
			t.Errorf("L2: step %d: false", i)
		}
		holds(t, p, want, nil)
	}
	if p.Step() {
		t.Error("L2: Step() = true; want false")
	}
	if id := p.Victim(); id != 1 {
		t.Errorf("L1: Victim() = %d; want 1", id)
	}
	if !p.Touch(1) || !p.Step() {
		t.Error("L1, L2: Touch(1), Step(): false")
	}
	holds(t, p, [3][]int{{5}, {1}, {4, 3, 2}}, nil)
	if id := p.Victim(); id != 2 {
		t.Errorf("L1: Victim() = %d; want 2", id)
	}
}

// Without ids, nobody goes, moves or is active.
func TestNew(t *testing.T) {
	p := seglru.New()
	if p == nil {
		t.Fatal("L1: New() is nil")
	}
	for range 3 {
		holds(t, p, [3][]int{}, nil)
		if id := p.Victim(); id != -1 {
			t.Errorf("L1: without ids: Victim() = %d; want -1", id)
		}
		if p.Step() {
			t.Error("L2: without ids: Step() = true")
		}
		for _, id := range slices.Concat([]int{0, 1, 5, mostID}, noIDs) {
			if p.Touch(id) || p.Remove(id) || p.Active(id) {
				t.Errorf("L1, L3: without ids: Touch, Remove or Active of %d: true", id)
			}
		}
	}
}

// Ids come to the front of hot, one behind the other, and are not active.
func TestInsert(t *testing.T) {
	p := seglru.New()
	var want []int
	for _, id := range []int{7, 0, 3, mostID, 1, mostID - 1, 2} {
		if !p.Insert(id) {
			t.Errorf("L1: Insert(%d) = false", id)
		}
		want = slices.Insert(want, 0, id)
		holds(t, p, [3][]int{want, nil, nil}, nil)
		if p.Active(id) {
			t.Errorf("L1: Insert(%d): it is active", id)
		}
	}
}

// The least id and the greatest one are ids like others, in each row.
func TestEdgesOfIDs(t *testing.T) {
	for _, id := range []int{0, 1, mostID - 1, mostID} {
		for row := range 3 {
			var rows [3][]int
			rows[row] = []int{5}
			w := arranged(t, rows)
			w.remove(5)
			w.insert(id)
			w.same(id, 5)
			if w.p.Victim() != id {
				t.Errorf("L1: Victim() = %d; want %d", w.p.Victim(), id)
			}
			w.touch(id)
			w.same(id, 5)
			for w.step() {
				w.same(id, 5)
			}
			if w.p.Insert(id) || !w.p.Touch(id) || !w.p.Active(id) || !w.p.Remove(id) || w.p.Remove(id) || w.p.Active(id) || w.p.Victim() != -1 {
				t.Errorf("L1: id %d is not as others are", id)
			}
		}
	}
	w := newTwin(t)
	w.insert(0, mostID)
	w.touch(mostID)
	for w.step() {
		w.same(0, mostID)
	}
	w.remove(0)
	w.same(0, mostID)
	w.insert(0)
	w.touch(0)
	for w.step() {
		w.same(0, mostID)
	}
}

// Touch makes active where it stands, whichever row that is, and moves nobody; once more changes nothing.
func TestTouch(t *testing.T) {
	rows := [3][]int{{1, 2, 3}, {4, 5, 6}, {7, 8, 9}}
	for id := 1; id <= 9; id++ {
		w := arranged(t, rows)
		for range 3 {
			if !w.p.Touch(id) {
				t.Fatalf("L1: Touch(%d) = false", id)
			}
			holds(t, w.p, rows, []int{id})
		}
	}
	w := arranged(t, rows)
	for id := 1; id <= 9; id++ {
		w.touch(id)
		holds(t, w.p, rows, from(1, id))
	}
}

// Remove takes out of each row, the active ones and those that are not; the others stay as they are.
func TestRemove(t *testing.T) {
	rows := [3][]int{{1, 2, 3}, {4, 5, 6}, {7, 8, 9}}
	for id := 1; id <= 9; id++ {
		for touched := range 2 {
			active := []int{2, 4, 9}
			if touched == 1 {
				active = append(active, id)
			}
			w := arranged(t, rows, active...)
			if !w.p.Remove(id) {
				t.Fatalf("L1: Remove(%d) = false", id)
			}
			want := rows
			for row, l := range want {
				want[row] = without(l, id)
			}
			for range 2 {
				holds(t, w.p, want, active)
				if w.p.Active(id) || w.p.Touch(id) || w.p.Active(id) || w.p.Remove(id) {
					t.Fatalf("L1: removed, %d stands", id)
				}
			}
		}
	}
}

func without(l []int, id int) []int {
	return slices.DeleteFunc(slices.Clone(l), func(n int) bool { return n == id })
}

// An id that was removed comes anew to the front of hot, and is not active, wherever it stood and whether it was active or not.
func TestAnew(t *testing.T) {
	rows := [3][]int{{1, 2, 3}, {4, 5, 6}, {7, 8, 9}}
	for id := 1; id <= 9; id++ {
		for touched := range 2 {
			w := arranged(t, rows, from(id, touched)...)
			w.remove(id)
			w.same(id)
			w.insert(id)
			if w.p.Active(id) {
				t.Fatalf("L1: %d came anew, and is active", id)
			}
			if l := w.p.All(hot); len(l) == 0 || l[0] != id {
				t.Fatalf("L1: All(0) = %v: %d is not at its front", l, id)
			}
			w.same(id)
			for w.step() {
				w.same(id)
			}
			w.touch(id)
			w.remove(id)
			w.remove(id)
			w.insert(id)
			w.same(id)
			for w.step() {
				w.same(id)
			}
		}
	}
}

// One that came anew is not active: it goes to cold, not to warm.
func TestAnewGoesToCold(t *testing.T) {
	p := seglru.New()
	p.Insert(1)
	p.Touch(1)
	p.Remove(1)
	p.Insert(1)
	holds(t, p, [3][]int{{1}, nil, nil}, nil)
	if !p.Step() {
		t.Error("L2: Step() = false")
	}
	holds(t, p, [3][]int{nil, nil, {1}}, nil)
	if p.Step() {
		t.Error("L2: Step() = true")
	}
}

// The victim is at the end of cold, of warm, of hot: the first of these that has some.
func TestVictim(t *testing.T) {
	for _, c := range []struct {
		rows [3][]int
		want int
	}{
		{[3][]int{{1, 2}, {3, 4}, {5, 6}}, 6},
		{[3][]int{{1, 2}, {3, 4}, {5}}, 5},
		{[3][]int{nil, {3, 4}, {5, 6}}, 6},
		{[3][]int{{1, 2}, nil, {5, 6}}, 6},
		{[3][]int{nil, nil, {5, 6, 7}}, 7},
		{[3][]int{{1, 2}, {3, 4}, nil}, 4},
		{[3][]int{nil, {3, 4, 5}, nil}, 5},
		{[3][]int{{1, 2}, {3}, nil}, 3},
		{[3][]int{{1, 2}, nil, nil}, 2},
		{[3][]int{{1}, nil, nil}, 1},
		{[3][]int{{0}, nil, nil}, 0},
		{[3][]int{{1}, {0}, nil}, 0},
		{[3][]int{{1}, {2}, {0}}, 0},
		{[3][]int{nil, nil, nil}, -1},
	} {
		for touched := range 2 {
			var active []int
			if touched == 1 {
				active = slices.Concat(c.rows[:]...)
			}
			w := arranged(t, c.rows, active...)
			for range 2 {
				if id := w.p.Victim(); id != c.want {
					t.Errorf("L1: of %v: Victim() = %d; want %d", c.rows, id, c.want)
				}
				holds(t, w.p, c.rows, active)
			}
		}
	}
}

// Victims go one by one, till none stands: cold from its end, then warm, then hot.
func TestVictimsGo(t *testing.T) {
	w := arranged(t, [3][]int{{1, 2, 3}, {4, 5}, {6, 7, 8}}, 8, 5, 1)
	for _, want := range []int{8, 7, 6, 5, 4, 3, 2, 1} {
		if id := w.p.Victim(); id != want {
			t.Fatalf("L1: Victim() = %d; want %d", id, want)
		}
		w.remove(want)
		w.same(want)
	}
	if id := w.p.Victim(); id != -1 {
		t.Errorf("L1: none stands: Victim() = %d; want -1", id)
	}
}

// The first of the three cases that applies, told by hand: the shares are rounded down.
func TestStep(t *testing.T) {
	for _, c := range []struct {
		rows   [3][]int
		active []int
		want   [3][]int
		after  []int
	}{
		// Hot: a share of 0 of one to four ids.
		{[3][]int{{1}, nil, nil}, nil, [3][]int{nil, nil, {1}}, nil},
		{[3][]int{{1}, nil, nil}, []int{1}, [3][]int{nil, {1}, nil}, nil},
		{[3][]int{{1}, nil, {2, 3, 4}}, nil, [3][]int{nil, nil, {1, 2, 3, 4}}, nil},
		{[3][]int{{1}, {2}, {3, 4}}, []int{1}, [3][]int{nil, {1, 2}, {3, 4}}, nil},
		// Hot: just a fifth and one more, of 5, of 9 (1 still) and of 10.
		{[3][]int{{1, 2}, nil, {3, 4, 5}}, nil, [3][]int{{1}, nil, {2, 3, 4, 5}}, nil},
		{[3][]int{{1, 2}, nil, {3, 4, 5}}, []int{2}, [3][]int{{1}, {2}, {3, 4, 5}}, nil},
		{[3][]int{{1, 2}, nil, {3, 4, 5}}, []int{1}, [3][]int{{1}, nil, {2, 3, 4, 5}}, []int{1}},
		{[3][]int{{1, 2}, {3}, from(4, 6)}, nil, [3][]int{{1}, {3}, {2, 4, 5, 6, 7, 8, 9}}, nil},
		{[3][]int{{1, 2, 3}, {4, 5}, from(6, 5)}, []int{3, 4}, [3][]int{{1, 2}, {3, 4, 5}, from(6, 5)}, []int{4}},
		// Warm: a share of 0 of one and of two ids, of 1 of three and of four, of 2 of five to seven.
		{[3][]int{nil, {1}, nil}, nil, [3][]int{nil, nil, {1}}, nil},
		{[3][]int{nil, {1}, nil}, []int{1}, [3][]int{nil, {1}, nil}, nil},
		{[3][]int{nil, {1}, {2}}, nil, [3][]int{nil, nil, {1, 2}}, nil},
		{[3][]int{nil, {1, 2}, {3}}, nil, [3][]int{nil, {1}, {2, 3}}, nil},
		{[3][]int{nil, {1, 2}, {3, 4}}, []int{2}, [3][]int{nil, {2, 1}, {3, 4}}, nil},
		{[3][]int{nil, {1, 2}, {3, 4}}, []int{1}, [3][]int{nil, {1}, {2, 3, 4}}, []int{1}},
		{[3][]int{{1}, {2, 3, 4}, {5}}, nil, [3][]int{{1}, {2, 3}, {4, 5}}, nil},
		{[3][]int{{1}, {2, 3, 4}, {5, 6, 7}}, []int{4, 2}, [3][]int{{1}, {4, 2, 3}, {5, 6, 7}}, []int{2}},
		{[3][]int{{1, 2}, {3, 4, 5, 6, 7}, {8, 9, 10}}, []int{6}, [3][]int{{1, 2}, {3, 4, 5, 6}, {7, 8, 9, 10}}, []int{6}},
		// Cold: its end is active.
		{[3][]int{nil, nil, {1}}, []int{1}, [3][]int{nil, {1}, nil}, nil},
		{[3][]int{{1}, {2, 3}, {4, 5}}, []int{5, 4}, [3][]int{{1}, {5, 2, 3}, {4}}, []int{4}},
		{[3][]int{{1}, {2}, {3, 4, 5}}, []int{1, 2, 5}, [3][]int{{1}, {5, 2}, {3, 4}}, []int{1, 2}},
		// The first one that applies is done, and no other: hot ahead of warm and cold, warm ahead of cold.
		{[3][]int{{1, 2}, {3, 4, 5}, nil}, nil, [3][]int{{1}, {3, 4, 5}, {2}}, nil},
		{[3][]int{{1, 2}, {3, 4, 5}, {6}}, []int{2, 5, 6}, [3][]int{{1}, {2, 3, 4, 5}, {6}}, []int{5, 6}},
		{[3][]int{{1, 2}, nil, {3, 4, 5}}, []int{5}, [3][]int{{1}, nil, {2, 3, 4, 5}}, []int{5}},
		{[3][]int{{1}, {2, 3, 4}, {5}}, []int{5}, [3][]int{{1}, {2, 3}, {4, 5}}, []int{5}},
		{[3][]int{{1}, {2, 3, 4}, {5}}, []int{4, 5}, [3][]int{{1}, {4, 2, 3}, {5}}, []int{5}},
	} {
		w := arranged(t, c.rows, c.active...)
		if !w.p.Step() {
			t.Errorf("L2: of %v, active %v: Step() = false", c.rows, c.active)
		}
		holds(t, w.p, c.want, c.after)
	}
}

// None of the three cases: just a fifth, just two fifths, active ones that are not at cold's end.
func TestNoStep(t *testing.T) {
	for _, c := range []struct {
		rows   [3][]int
		active []int
	}{
		{[3][]int{nil, nil, {1}}, nil},
		{[3][]int{nil, nil, {1, 2}}, []int{1}},
		{[3][]int{nil, nil, {1, 2, 3, 4}}, []int{1, 2, 3}},
		{[3][]int{nil, {1}, {2, 3}}, []int{1, 2}},
		{[3][]int{nil, {1}, {2, 3, 4}}, []int{1}},
		{[3][]int{{1}, {2, 3}, {4, 5}}, []int{1, 2, 3, 4}},
		{[3][]int{{1}, nil, {2, 3, 4, 5}}, []int{1, 2}},
		{[3][]int{{1}, {2, 3}, {4, 5, 6, 7}}, []int{1, 2, 3}},
		{[3][]int{{1}, {2, 3, 4}, {5, 6, 7, 8}}, nil},
		{[3][]int{{1, 2}, {3, 4, 5, 6}, {7, 8, 9, 10}}, []int{1, 2, 3, 4, 5, 6, 7, 8, 9}},
		{[3][]int{from(1, 20), from(21, 40), from(61, 40)}, from(1, 99)},
	} {
		w := arranged(t, c.rows, c.active...)
		for range 3 {
			if w.p.Step() {
				t.Errorf("L2: of %v, active %v: Step() = true", c.rows, c.active)
			}
			holds(t, w.p, c.rows, c.active)
		}
	}
}

// Of each number of ids, the share of each row is rounded down: just so many stay, one more goes.
func TestShares(t *testing.T) {
	for n := 1; n <= 40; n++ {
		for row, share := range [2]int{n / 5, n * 2 / 5} {
			for more := range 2 {
				if share+more > n {
					continue
				}
				var rows [3][]int
				rows[row] = from(1, share+more)
				rows[cold] = from(100, n-share-more)
				w := arranged(t, rows)
				if moved := w.p.Step(); moved != (more == 1) {
					t.Errorf("L2: %d of %d ids in row %d: Step() = %v", share+more, n, row, moved)
				}
				if l := w.p.All(row); len(l) != share || len(w.p.All(cold)) != n-share {
					t.Errorf("L2: %d of %d ids in row %d: it has %d behind a step", share+more, n, row, len(l))
				}
			}
		}
	}
}

// All states of up to six ids, however they stand and whoever is active: one step, and those that follow.
func TestAllStates(t *testing.T) {
	for n := range 7 {
		for h := range n + 1 {
			for x := range n + 1 - h {
				rows := [3][]int{from(0, h), from(h, x), from(h+x, n-h-x)}
				for active := range 1 << n {
					var l []int
					for id := range n {
						if active>>id&1 == 1 {
							l = append(l, id)
						}
					}
					w := arranged(t, rows, l...)
					for w.step() {
						w.same(from(0, n)...)
					}
					w.same(from(0, n)...)
				}
			}
		}
	}
}

// Behind a step exactly one id stands elsewhere, at the front of its row, and is not active; nobody came or went, the others are as they were.
func TestStepMovesOne(t *testing.T) {
	r := rand.New(rand.NewSource(7))
	p := seglru.New()
	for range 3000 {
		id := r.Intn(20)
		switch r.Intn(4) {
		case 0:
			p.Insert(id)
		case 1:
			p.Remove(id)
		default:
			p.Touch(id)
		}
		before, active := rowsOf(p), activeOf(p)
		victims := [3]int{-1, -1, -1}
		for row, l := range before {
			if len(l) > 0 {
				victims[row] = l[len(l)-1]
			}
		}
		if !p.Step() {
			if after := rowsOf(p); !reflect.DeepEqual(after, before) || !maps.Equal(activeOf(p), active) {
				t.Fatalf("L2: Step() = false: %v; was %v", after, before)
			}
			continue
		}
		moved := -1
		for id := range active {
			if !p.Active(id) {
				moved = id
			}
		}
		after := rowsOf(p)
		if moved < 0 {
			moved = after[cold][0]
		}
		row := slices.IndexFunc(after[:], func(l []int) bool { return len(l) > 0 && l[0] == moved })
		if row < warm || p.Active(moved) || !slices.Contains(victims[:], moved) || (row == warm) != (active[moved] == 1) {
			t.Fatalf("L2: %d moved, active %v: %v; was %v", moved, active, after, before)
		}
		for row := range after {
			if !slices.Equal(without(after[row], moved), without(before[row], moved)) {
				t.Fatalf("L2: others than %d moved: %v; was %v", moved, after, before)
			}
		}
		delete(active, moved)
		if !maps.Equal(activeOf(p), active) {
			t.Fatalf("L2: active: %v; want %v", activeOf(p), active)
		}
	}
}

func rowsOf(p *seglru.Policy) [3][]int { return [3][]int{p.All(hot), p.All(warm), p.All(cold)} }

func activeOf(p *seglru.Policy) map[int]int {
	active := map[int]int{}
	for _, l := range rowsOf(p) {
		for _, id := range l {
			if p.Active(id) {
				active[id] = 1
			}
		}
	}
	return active
}

// As long as nobody touches, steps come to an end: at most four for each id and one more answer true; no step lets anybody in or out.
func TestStepsEnd(t *testing.T) {
	r := rand.New(rand.NewSource(2))
	for n := range 60 {
		for range 10 {
			w := newTwin(t)
			w.insert(r.Perm(n)...)
			for range r.Intn(2*n + 1) {
				w.touch(r.Intn(n))
				w.step()
			}
			for id := range n {
				if r.Intn(3) > 0 {
					w.touch(id)
				}
			}
			steps := 0
			for w.step() {
				if steps++; steps > 4*n+1 {
					t.Fatalf("L2: of %d ids, %d steps are true", n, steps)
				}
				ids := slices.Concat(w.p.All(hot), w.p.All(warm), w.p.All(cold))
				slices.Sort(ids)
				if !slices.Equal(ids, from(0, n)) {
					t.Fatalf("L2: of %d ids stand, behind %d steps: %v", n, steps, ids)
				}
			}
			w.same()
			if w.step() {
				t.Fatal("L2: a step is true behind one that was not")
			}
			if len(w.p.All(hot)) > n/5 || len(w.p.All(warm)) > n*2/5 || n > 0 && w.p.Active(w.p.Victim()) {
				t.Fatalf("L2: no step is left of %v", rowsOf(w.p))
			}
		}
	}
}

// What may not be, or stands already, is not inserted, and nothing changes: who stands keeps its row and its place, and is as active as it was.
func TestWrongInsert(t *testing.T) {
	rows := [3][]int{{1, 2, 0}, {4, 5, 6}, {7, 8, 9}}
	active := []int{0, 1, 5, 8}
	w := arranged(t, rows, active...)
	for _, id := range slices.Concat(noIDs, rows[hot], rows[warm], rows[cold]) {
		if w.p.Insert(id) {
			t.Errorf("L1: Insert(%d) = true", id)
		}
		holds(t, w.p, rows, active)
		if slices.Contains(noIDs, id) && (w.p.Active(id) || w.p.Touch(id) || w.p.Active(id) || w.p.Remove(id)) {
			t.Errorf("L1: %d stands", id)
		}
	}
	holds(t, w.p, rows, active)
	p := seglru.New()
	for _, id := range noIDs {
		if p.Insert(id) || p.Victim() != -1 || p.Step() {
			t.Errorf("L1: Insert(%d) of an empty one let it in", id)
		}
		holds(t, p, [3][]int{}, nil)
	}
}

// Who does not stand is neither touched nor removed nor active, and that changes nothing.
func TestWrongTouchAndRemove(t *testing.T) {
	rows := [3][]int{{1, 2, 3}, {4, 5, 6}, {7, 8, 9}}
	active := []int{3, 4, 9}
	w := arranged(t, rows, active...)
	w.insert(10, 11)
	w.touch(10)
	w.remove(10, 11)
	for _, id := range slices.Concat([]int{0, 10, 11, 12, 1000, mostID}, noIDs) {
		if w.p.Active(id) || w.p.Touch(id) || w.p.Active(id) || w.p.Remove(id) || w.p.Active(id) {
			t.Errorf("L1, L3: %d does not stand: Touch, Remove or Active: true", id)
		}
		holds(t, w.p, rows, active)
	}
	// A touch ahead of its time is not kept for later.
	for _, id := range []int{0, 10, 11, mostID} {
		w.insert(id)
		if w.p.Active(id) {
			t.Errorf("L1: %d was touched when it did not stand, and is active", id)
		}
	}
	w.same(0, 10, 11, mostID)
}

// Of a row that is not there nothing is told.
func TestWrongRows(t *testing.T) {
	rows := [3][]int{{1, 2, 3}, {4, 5, 6}, {7, 8, 9}}
	w := arranged(t, rows, 1, 9)
	for _, row := range noRows {
		if l := w.p.All(row); len(l) != 0 {
			t.Errorf("L3: All(%d) = %v; want none", row, l)
		}
		holds(t, w.p, rows, []int{1, 9})
	}
	for _, row := range noRows {
		if l := seglru.New().All(row); len(l) != 0 {
			t.Errorf("L3: All(%d) = %v; want none", row, l)
		}
	}
}

// Ids are moved by the chapter's calls alone: none of the rows' own is given out.
func TestCalls(t *testing.T) {
	var names []string
	for m := range reflect.TypeOf(seglru.New()).Methods() {
		names = append(names, m.Name)
	}
	if want := []string{"Active", "All", "Insert", "Remove", "Step", "Touch", "Victim"}; !slices.Equal(names, want) {
		t.Errorf("L1 to L3: the calls are %v; want %v", names, want)
	}
	for _, f := range reflect.VisibleFields(reflect.TypeOf(seglru.Policy{})) {
		if f.IsExported() {
			t.Errorf("L1: the field %s is given out", f.Name)
		}
	}
}

// play makes a random call, of so many ids.
func (w *twin) play(r *rand.Rand, ids int) {
	w.t.Helper()
	id := r.Intn(ids)
	if id == ids-1 {
		id = mostID
	}
	switch n := r.Intn(20); {
	case n < 5:
		w.insert(id)
	case n < 10:
		w.touch(id)
	case n < 12:
		w.remove(id)
	case n < 13:
		w.remove(w.m.Victim())
	case n < 19:
		w.step()
	default:
		w.insert(-1-id, mostID+1+id)
		w.touch(-1-id, mostID+1+id)
		w.remove(-1-id, mostID+1+id)
	}
}

// All short scripts of two ids, and of a third that comes and stays, held against the chapter's words.
func TestShortScripts(t *testing.T) {
	const calls, long = 9, 5
	scripts := 1
	for range long {
		scripts *= calls
	}
	for script := range scripts {
		w := newTwin(t)
		for n, i := script, 0; i < long; i++ {
			switch call := n % calls; {
			case call < 2:
				w.insert(call)
			case call < 4:
				w.touch(call - 2)
			case call < 6:
				w.remove(call - 4)
			case call < 7:
				w.insert(5)
			case call < 8:
				w.remove(w.m.Victim())
			default:
				w.step()
			}
			n /= calls
			w.same(0, 1, 5)
		}
	}
}

// Long scripts, each held against the chapter's words step by step.
func TestScripts(t *testing.T) {
	for seed := range 120 {
		r := rand.New(rand.NewSource(int64(seed)))
		w := newTwin(t)
		ids := 2 + seed
		for range 500 {
			w.play(r, ids)
			w.same(r.Intn(ids), mostID)
		}
	}
}

// Two of them have nothing to do with each other, though the ids be the same (R3).
func TestTwo(t *testing.T) {
	r := rand.New(rand.NewSource(1))
	a, b := newTwin(t), newTwin(t)
	a.insert(1, 2, 3)
	a.touch(2)
	b.same(1, 2, 3)
	for range 2000 {
		w := a
		if r.Intn(2) == 0 {
			w = b
		}
		w.play(r, 10)
		a.same(from(0, 10)...)
		b.same(from(0, 10)...)
	}
}

// What came out may be written over, and is not written over from within (R1).
func TestOwned(t *testing.T) {
	w := arranged(t, [3][]int{{1, 2, 3}, {4, 5, 6}, {7, 8, 9}}, 3, 4, 9)
	for range 9 {
		for row := range 3 {
			one, other := w.p.All(row), w.p.All(row)
			kept := slices.Clone(other)
			for i := range one {
				one[i] = 77
			}
			_ = append(one[:0], 78, 79, 80)
			_ = append(one, 81, 82)
			if !slices.Equal(other, kept) {
				t.Fatalf("R1: two answers of All(%d) share their ids: %v", row, other)
			}
			w.same(77, 78, 79, 80, 81, 82)
			w.insert(20 + row)
			w.step()
			w.remove(20 + row)
			if !slices.Equal(other, kept) {
				t.Fatalf("R1: an answer of All(%d) changed: %v; was %v", row, other, kept)
			}
		}
		w.remove(w.p.Victim())
		w.same()
	}
}

// The same calls have the same answers (R4).
func TestSameAgain(t *testing.T) {
	a, b := newTwin(t), newTwin(t)
	for _, w := range []*twin{a, b} {
		r := rand.New(rand.NewSource(3))
		for range 3000 {
			w.play(r, 300)
		}
	}
	if x, y := rowsOf(a.p), rowsOf(b.p); !reflect.DeepEqual(x, y) {
		t.Errorf("R4: the rows: %v and %v", x, y)
	}
	if x, y := activeOf(a.p), activeOf(b.p); !maps.Equal(x, y) {
		t.Errorf("R4: active: %v and %v", x, y)
	}
}

// Many ids stand, move till no step is left, and go.
func TestMany(t *testing.T) {
	const n, apart = 100000, 41
	p := seglru.New()
	for i := range n {
		if !p.Insert(i * apart) {
			t.Fatalf("L1: Insert(%d) = false", i*apart)
		}
		if i%10 == 0 {
			p.Touch(i * apart)
		}
	}
	steps := 0
	for p.Step() {
		steps++
	}
	// The older four fifths leave hot; of these each tenth goes to warm, which has room for them.
	if steps != n*4/5 || len(p.All(hot)) != n/5 || len(p.All(warm)) != n*4/50 || len(p.All(cold)) != n*36/50 {
		t.Fatalf("L2: %d steps: %d, %d and %d ids", steps, len(p.All(hot)), len(p.All(warm)), len(p.All(cold)))
	}
	var want []int
	for row := range 3 {
		var l []int
		for i := range n {
			if i >= n*4/5 == (row == hot) && (row == hot || i%10 == 0 == (row == warm)) {
				l = append(l, i*apart)
			}
		}
		slices.Reverse(l)
		if !slices.Equal(p.All(row), l) {
			t.Fatalf("L2: row %d is not as its ids came", row)
		}
		slices.Reverse(l)
		want = append(l, want...)
	}
	for _, id := range want {
		if p.Victim() != id || !p.Remove(id) || p.Active(id) {
			t.Fatalf("L1: Victim() = %d; want %d, and that it goes", p.Victim(), id)
		}
	}
	if p.Victim() != -1 || p.Step() {
		t.Error("L1: all went, and there is a victim")
	}
}
