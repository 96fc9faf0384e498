package rows_test

import (
	"math"
	"math/rand"
	"slices"
	"testing"

	"ambry/rows"
)

const (
	mostRows = 8
	mostID   = 4194303
)

// plain is rows by the chapter's words alone: each a list of ids from its front.
type plain [][]int

func (m plain) may(row, id int) bool {
	return row >= 0 && row < len(m) && id >= 0 && id <= mostID
}

func (m plain) Front(row, id int) bool {
	if !m.may(row, id) {
		return false
	}
	m.Take(id)
	m[row] = slices.Insert(m[row], 0, id)
	return true
}

func (m plain) Back(row, id int) bool {
	if !m.may(row, id) {
		return false
	}
	m.Take(id)
	m[row] = append(m[row], id)
	return true
}

func (m plain) Take(id int) bool {
	row := m.Row(id)
	if row < 0 {
		return false
	}
	m[row] = slices.DeleteFunc(m[row], func(n int) bool { return n == id })
	return true
}

func (m plain) Row(id int) int {
	return slices.IndexFunc(m, func(l []int) bool { return slices.Contains(l, id) })
}

func (m plain) ends(row int) (first, last int) {
	if l := m[row]; len(l) > 0 {
		return l[0], l[len(l)-1]
	}
	return -1, -1
}

// twin is rows, beside what the chapter says of them.
type twin struct {
	t *testing.T
	r *rows.Rows
	m plain
}

func newTwin(t *testing.T, n int) *twin {
	t.Helper()
	r := rows.New(n)
	if r == nil {
		t.Fatalf("J1: New(%d) is nil", n)
	}
	return &twin{t, r, make(plain, n)}
}

func (w *twin) front(row, id int) {
	w.t.Helper()
	if ok, want := w.r.Front(row, id), w.m.Front(row, id); ok != want {
		w.t.Fatalf("J1: Front(%d, %d) = %v; want %v", row, id, ok, want)
	}
}

func (w *twin) back(row, id int) {
	w.t.Helper()
	if ok, want := w.r.Back(row, id), w.m.Back(row, id); ok != want {
		w.t.Fatalf("J1: Back(%d, %d) = %v; want %v", row, id, ok, want)
	}
}

func (w *twin) take(id int) {
	w.t.Helper()
	if ok, want := w.r.Take(id), w.m.Take(id); ok != want {
		w.t.Fatalf("J1: Take(%d) = %v; want %v", id, ok, want)
	}
}

// fill puts ids at the row's end, one behind the other.
func (w *twin) fill(row int, ids ...int) {
	w.t.Helper()
	for _, id := range ids {
		w.back(row, id)
	}
}

// same tells that the two are alike in all that they tell of rows, and of these ids and all that stand.
func (w *twin) same(ids ...int) {
	w.t.Helper()
	for row, want := range w.m {
		if l := w.r.All(row); !slices.Equal(l, want) {
			w.t.Fatalf("J2: All(%d) = %v; want %v", row, l, want)
		}
		if n := w.r.Len(row); n != len(want) {
			w.t.Fatalf("J2: Len(%d) = %d; want %d", row, n, len(want))
		}
		first, last := w.m.ends(row)
		if id := w.r.First(row); id != first {
			w.t.Fatalf("J2: First(%d) = %d; want %d", row, id, first)
		}
		if id := w.r.Last(row); id != last {
			w.t.Fatalf("J2: Last(%d) = %d; want %d", row, id, last)
		}
		ids = append(ids, want...)
	}
	for _, id := range ids {
		if row, want := w.r.Row(id), w.m.Row(id); row != want {
			w.t.Fatalf("J2: Row(%d) = %d; want %d", id, row, want)
		}
	}
}

// noRows are numbers of rows that are not there among n of them.
func noRows(n int) []int {
	return []int{-1, -2, -n, -n - 1, n, n + 1, 2 * n, mostRows, mostRows + 1, 1 << 32, -1 << 32, math.MaxInt, math.MinInt}
}

// noIDs are numbers that are no ids.
var noIDs = []int{-1, -2, -5, -mostID, mostID + 1, mostID + 2, mostID + 6, 1 << 32, 1<<32 + 5, -1 << 32, math.MaxInt, math.MinInt, math.MinInt + 1}

func TestExample(t *testing.T) {
	r := rows.New(2)
	if !r.Front(0, 5) || !r.Front(0, 6) || !r.Back(0, 7) {
		t.Error("J1: Front and Back of what may be: false")
	}
	if l := r.All(0); !slices.Equal(l, []int{6, 5, 7}) {
		t.Errorf("J2: All(0) = %v; want 6 5 7", l)
	}
	if !r.Front(1, 5) {
		t.Error("J1: Front(1, 5) = false")
	}
	if l := r.All(0); !slices.Equal(l, []int{6, 7}) {
		t.Errorf("J2: All(0) = %v; want 6 7", l)
	}
	if row := r.Row(5); row != 1 {
		t.Errorf("J2: Row(5) = %d; want 1", row)
	}
	if !r.Take(5) || r.Take(5) {
		t.Error("J1: Take(5), twice, is not true and false")
	}
	if row := r.Row(5); row != -1 || r.Len(1) != 0 {
		t.Errorf("J2: taken: Row(5) = %d, Len(1) = %d; want -1, 0", row, r.Len(1))
	}
}

func TestNew(t *testing.T) {
	for n := -20; n <= 40; n++ {
		r := rows.New(n)
		if may := n >= 1 && n <= mostRows; (r != nil) != may {
			t.Errorf("J1: New(%d) is nil: %v; want %v", n, r == nil, !may)
		}
	}
	for _, n := range []int{100, 1 << 31, 1<<32 + 1, 1<<32 + 8, math.MaxInt, math.MinInt, math.MinInt + 1, -1 << 32} {
		if rows.New(n) != nil {
			t.Errorf("J1: New(%d) is not nil", n)
		}
	}
}

// Without ids, each row is empty, and no id stands.
func TestEmpty(t *testing.T) {
	for n := 1; n <= mostRows; n++ {
		w := newTwin(t, n)
		w.same(0, 1, 5, mostID)
		for row := range n {
			if w.r.First(row) != -1 || w.r.Last(row) != -1 || w.r.Len(row) != 0 || len(w.r.All(row)) != 0 {
				t.Errorf("J2: row %d of %d is not empty", row, n)
			}
		}
		w.take(0)
		w.take(mostID)
		w.same(0, 1, 5, mostID)
	}
}

// Each row of each number of rows, the least id and the greatest one.
func TestEdges(t *testing.T) {
	for n := 1; n <= mostRows; n++ {
		for row := range n {
			for _, id := range []int{0, 1, mostID - 1, mostID} {
				w := newTwin(t, n)
				w.front(row, id)
				w.same(0, 1, mostID)
				if w.r.First(row) != id || w.r.Last(row) != id || w.r.Len(row) != 1 || w.r.Row(id) != row {
					t.Errorf("J2: of %d rows: id %d is not alone in row %d", n, id, row)
				}
				w.take(id)
				w.same(id)
				w.back(row, id)
				w.same(0, 1, mostID)
				w.back(n-1-row, id)
				w.same(0, 1, mostID)
				w.front(row, id)
				w.same(0, 1, mostID)
				w.take(id)
				w.take(id)
				w.same(id)
			}
		}
	}
}

// Front and Back put ids at the ends, in the order in which they come.
func TestEnds(t *testing.T) {
	r := rows.New(1)
	for i := range 5 {
		r.Front(0, 10+i)
		r.Back(0, 20+i)
	}
	if l := r.All(0); !slices.Equal(l, []int{14, 13, 12, 11, 10, 20, 21, 22, 23, 24}) {
		t.Errorf("J1: All(0) = %v", l)
	}
	if r.First(0) != 14 || r.Last(0) != 24 || r.Len(0) != 10 {
		t.Errorf("J2: First %d, Last %d, Len %d; want 14, 24, 10", r.First(0), r.Last(0), r.Len(0))
	}
}

// Each id of a row (the first, those between, the last, the only one) goes to each end of its own row and of another, or out and back again.
func TestEachMove(t *testing.T) {
	for n := 1; n <= 5; n++ {
		for others := range 3 {
			for id := range n {
				for call := range 6 {
					w := newTwin(t, 3)
					w.fill(1, []int{0, 1, 2, 3, 4}[:n]...)
					w.fill(2, []int{10, 11}[:others]...)
					switch call {
					case 0:
						w.front(1, id)
					case 1:
						w.back(1, id)
					case 2:
						w.front(2, id)
					case 3:
						w.back(2, id)
					case 4:
						w.take(id)
					case 5:
						w.take(id)
						w.same(id)
						w.back(1, id)
					}
					w.same(id)
					w.front(1, 20)
					w.back(1, 21)
					w.back(2, 22)
					w.same(id)
				}
			}
		}
	}
}

// An id that stands where it is put already stays there.
func TestPutAgain(t *testing.T) {
	r := rows.New(2)
	for _, id := range []int{7, 8, 9} {
		r.Back(0, id)
	}
	for range 3 {
		if !r.Front(0, 7) || !r.Back(0, 9) {
			t.Error("J1: Front and Back of an id that stands: false")
		}
		if l := r.All(0); !slices.Equal(l, []int{7, 8, 9}) || r.Len(0) != 3 {
			t.Errorf("J1: All(0) = %v, Len(0) = %d; want 7 8 9, 3", l, r.Len(0))
		}
	}
	r.Back(1, 3)
	for range 3 {
		r.Front(1, 3)
		r.Back(1, 3)
		if l := r.All(1); !slices.Equal(l, []int{3}) || r.Len(1) != 1 {
			t.Errorf("J1: All(1) = %v, Len(1) = %d; want 3, 1", l, r.Len(1))
		}
	}
}

// Out of a row goes each of its ids, in each order, till none is left.
func TestTakeAll(t *testing.T) {
	for a := range 4 {
		for b := range 4 {
			for c := range 4 {
				w := newTwin(t, 2)
				w.fill(0, 0, 1, 2, 3)
				w.fill(1, 5)
				for _, id := range []int{a, b, c, 0, 1, 2, 3} {
					w.take(id)
					w.same(0, 1, 2, 3)
				}
				if w.r.First(0) != -1 || w.r.Last(0) != -1 || w.r.Len(0) != 0 {
					t.Fatal("J1: an id stands that was taken")
				}
				w.front(0, c)
				w.back(0, a)
				w.same(0, 1, 2, 3)
			}
		}
	}
}

// What may not be is told so, and changes nothing, whether the id stands or not.
func TestWrong(t *testing.T) {
	for n := 1; n <= mostRows; n++ {
		w := newTwin(t, n)
		w.fill(0, 5, 6, 0)
		w.fill(n-1, mostID, 6, 7)
		for _, row := range noRows(n) {
			for _, id := range slices.Concat([]int{5, 6, 7, 0, mostID, 9}, noIDs) {
				w.front(row, id)
				w.back(row, id)
			}
			w.same(9)
			if w.r.First(row) != -1 || w.r.Last(row) != -1 || w.r.Len(row) != 0 || len(w.r.All(row)) != 0 {
				t.Errorf("J2: row %d of %d: First %d, Last %d, Len %d, All %v", row, n, w.r.First(row), w.r.Last(row), w.r.Len(row), w.r.All(row))
			}
		}
		for _, id := range slices.Concat([]int{9}, noIDs) {
			if id != 9 && (w.r.Front(0, id) || w.r.Back(n-1, id)) {
				t.Errorf("J1: Front or Back of id %d: true", id)
			}
			w.take(id)
			if row := w.r.Row(id); row != -1 {
				t.Errorf("J2: Row(%d) = %d; want -1", id, row)
			}
			w.same(noIDs...)
		}
	}
}

// The same on rows without ids.
func TestWrongOfEmpty(t *testing.T) {
	w := newTwin(t, 2)
	for _, id := range slices.Concat([]int{0, 5, mostID}, noIDs) {
		for _, row := range []int{-1, 2, math.MaxInt, math.MinInt} {
			w.front(row, id)
			w.back(row, id)
		}
		w.take(id)
		w.same(id)
	}
	for _, id := range noIDs {
		w.front(0, id)
		w.back(1, id)
		w.same(id)
	}
}

// do makes one of the calls on two rows and three ids, and one of nothing that may be.
func (w *twin) do(call int) {
	w.t.Helper()
	switch row, id := call/3%2, call%3; {
	case call < 6:
		w.front(row, id)
	case call < 12:
		w.back(row, id)
	case call < 15:
		w.take(id)
	default:
		w.front(2, 0)
		w.back(0, -1)
	}
}

// All short scripts, held against the chapter's words.
func TestShortScripts(t *testing.T) {
	const calls = 16
	for script := range calls * calls * calls * calls {
		w := newTwin(t, 2)
		for n, i := script, 0; i < 4; i++ {
			w.do(n % calls)
			n /= calls
		}
		w.same(0, 1, 2)
	}
}

// play makes a random call, of so many ids at most.
func (w *twin) play(r *rand.Rand, ids int) {
	w.t.Helper()
	row, id := r.Intn(len(w.m)), r.Intn(ids)
	if id == ids-1 {
		id = mostID
	}
	switch r.Intn(12) {
	case 0, 1, 2, 3:
		w.front(row, id)
	case 4, 5, 6, 7:
		w.back(row, id)
	case 8, 9, 10:
		w.take(id)
	default:
		w.front(-1-row, id)
		w.back(row, -1-id)
		w.back(len(w.m)+row, id)
		w.front(row, mostID+1+id)
	}
}

// Long scripts, each held against the chapter's words step by step.
func TestScripts(t *testing.T) {
	for seed := range 80 {
		r := rand.New(rand.NewSource(int64(seed)))
		w := newTwin(t, 1+seed%mostRows)
		ids := 2 + seed
		for range 300 {
			w.play(r, ids)
			w.same(r.Intn(ids))
		}
	}
}

// Whatever is called, an id stands in one row at most, and the others stay in their order.
func TestWhatFollows(t *testing.T) {
	r := rand.New(rand.NewSource(5))
	w := newTwin(t, 3)
	for range 2000 {
		id := r.Intn(12)
		var was [3][]int
		for row := range was {
			was[row] = without(w.r.All(row), id)
		}
		switch row := r.Intn(3); r.Intn(3) {
		case 0:
			w.r.Front(row, id)
		case 1:
			w.r.Back(row, id)
		case 2:
			w.r.Take(id)
		}
		stands := 0
		for row := range was {
			l := w.r.All(row)
			if got := without(l, id); !slices.Equal(got, was[row]) {
				t.Fatalf("J1: others than %d moved in row %d: %v; want %v", id, row, got, was[row])
			}
			for _, n := range l {
				if n == id {
					stands++
				}
			}
		}
		if stands > 1 || (stands == 1) != (w.r.Row(id) >= 0) {
			t.Fatalf("J1: %d stands %d times; Row: %d", id, stands, w.r.Row(id))
		}
	}
}

func without(l []int, id int) []int {
	return slices.DeleteFunc(slices.Clone(l), func(n int) bool { return n == id })
}

// Two of them have nothing to do with each other, though the ids be the same (R3).
func TestTwo(t *testing.T) {
	r := rand.New(rand.NewSource(1))
	a, b := newTwin(t, 3), newTwin(t, 3)
	for range 1000 {
		w := a
		if r.Intn(2) == 0 {
			w = b
		}
		w.play(r, 10)
		a.same(0, 5, 8)
		b.same(0, 5, 8)
	}
}

// What came out may be written over, and is not written over from within (R1).
func TestOwned(t *testing.T) {
	w := newTwin(t, 2)
	w.fill(0, 1, 2, 3, 4, 5)
	w.fill(1, 6)
	for range 6 {
		for row := range 2 {
			one, other := w.r.All(row), w.r.All(row)
			kept := slices.Clone(other)
			for i := range one {
				one[i] = 77
			}
			_ = append(one[:0], 78, 79, 80)
			_ = append(one, 81, 82)
			if !slices.Equal(other, kept) {
				t.Fatalf("R1: two answers of All(%d) share their items: %v", row, other)
			}
			w.same(77, 78, 79, 80, 81, 82)
			was := slices.Clone(other)
			w.front(1-row, 9)
			w.back(row, 9)
			w.take(9)
			if !slices.Equal(other, was) {
				t.Fatalf("R1: an answer of All(%d) changed: %v; was %v", row, other, was)
			}
		}
		w.take(w.r.First(0))
		w.same()
	}
}

// The same calls have the same answers (R4).
func TestSameAgain(t *testing.T) {
	a, b := newTwin(t, 4), newTwin(t, 4)
	for _, w := range []*twin{a, b} {
		r := rand.New(rand.NewSource(3))
		for range 3000 {
			w.play(r, 500)
		}
	}
	for row := range 4 {
		if x, y := a.r.All(row), b.r.All(row); !slices.Equal(x, y) {
			t.Errorf("R4: All(%d): %v and %v", row, x, y)
		}
	}
}

// Many ids stand, from the least to the greatest, move and go.
func TestMany(t *testing.T) {
	const step = 41
	r := rows.New(mostRows)
	var l []int
	for id := 0; id <= mostID; id += step {
		l = append(l, id)
		if !r.Back(7, id) {
			t.Fatalf("J1: Back(7, %d) = false", id)
		}
	}
	if !slices.Equal(r.All(7), l) || r.Len(7) != len(l) || r.First(7) != 0 || r.Last(7) != l[len(l)-1] {
		t.Fatal("J2: many ids do not stand as they came")
	}
	for _, id := range l {
		r.Front(id%2, id)
	}
	slices.Reverse(l)
	for row := range 2 {
		want := slices.DeleteFunc(slices.Clone(l), func(id int) bool { return id%2 != row })
		if !slices.Equal(r.All(row), want) || r.Len(row) != len(want) {
			t.Fatalf("J2: row %d is not as the ids came", row)
		}
	}
	if r.Len(7) != 0 || r.First(7) != -1 || r.Last(7) != -1 {
		t.Fatal("J2: ids stand where they were taken from")
	}
	for _, id := range l {
		if r.Row(id) != id%2 || r.Row(id+1) != -1 || !r.Take(id) || r.Row(id) != -1 {
			t.Fatalf("J1: %d does not go", id)
		}
	}
	if r.Len(0) != 0 || r.Len(1) != 0 {
		t.Fatalf("J2: Len: %d, %d; want 0, 0", r.Len(0), r.Len(1))
	}
}
