package policy_test

import "slices"

// words is what the chapters say of a kind's calls, by lists alone.
type words interface {
	Cap(n int)
	Insert(id int, h uint64) bool
	Touch(id int) bool
	Remove(id int) bool
	Victim(h uint64) int
	Evict(id int) bool
	ids() []int
}

func newWords(kind int) words {
	switch kind {
	case plain:
		return &plainWords{make(lists, 1)}
	case segmented:
		return &segmentedWords{make(lists, 3), map[int]int{}}
	case adaptive:
		return &adaptiveWords{lists: make(lists, 2), number: map[int]uint64{}}
	}
	return &threeWords{lists: make(lists, 2), number: map[int]uint64{}, count: map[int]int{}}
}

// lists are rows of ids, each from its front.
type lists [][]int

func (l lists) ids() []int { return slices.Concat(l...) }

func (l lists) where(id int) int {
	return slices.IndexFunc(l, func(row []int) bool { return slices.Contains(row, id) })
}

func (l lists) out(id int) {
	for i, row := range l {
		l[i] = slices.DeleteFunc(slices.Clone(row), func(n int) bool { return n == id })
	}
}

func (l lists) front(row, id int) {
	l.out(id)
	l[row] = append([]int{id}, l[row]...)
}

func (l lists) end(row int) int {
	if n := len(l[row]); n > 0 {
		return l[row][n-1]
	}
	return -1
}

// mayCome tells whether the id is one, and does not stand.
func (l lists) mayCome(id int) bool { return id >= 0 && id <= mostID && l.where(id) < 0 }

// Remove is the same of all kinds: what else is known of who went, Insert writes over.
func (l lists) Remove(id int) bool {
	stood := l.where(id) >= 0
	l.out(id)
	return stood
}

// plainWords is one row.
type plainWords struct{ lists }

func (m *plainWords) Cap(n int) {}

func (m *plainWords) Insert(id int, h uint64) bool {
	if !m.mayCome(id) {
		return false
	}
	m.front(0, id)
	return true
}

func (m *plainWords) Touch(id int) bool {
	if m.where(id) < 0 {
		return false
	}
	m.front(0, id)
	return true
}

func (m *plainWords) Victim(h uint64) int { return m.end(0) }

func (m *plainWords) Evict(id int) bool { return m.Remove(id) }

// segmentedWords is chapter 12: hot, warm and cold, and who is active.
type segmentedWords struct {
	lists
	active map[int]int
}

func (m *segmentedWords) Cap(n int) {}

func (m *segmentedWords) Insert(id int, h uint64) bool {
	if !m.mayCome(id) {
		return false
	}
	m.active[id] = 0
	m.front(0, id)
	return true
}

func (m *segmentedWords) Touch(id int) bool {
	if m.where(id) < 0 {
		return false
	}
	m.active[id] = 1
	return true
}

func (m *segmentedWords) step() bool {
	n := len(m.ids())
	row := -1
	if len(m.lists[0]) > 20*n/100 {
		row = 0
	} else if len(m.lists[1]) > 40*n/100 {
		row = 1
	} else if len(m.lists[2]) > 0 && m.active[m.end(2)] == 1 {
		row = 2
	} else {
		return false
	}
	id, to := m.end(row), 2
	if m.active[id] == 1 {
		to = 1
	}
	m.active[id] = 0
	m.front(to, id)
	return true
}

func (m *segmentedWords) Victim(h uint64) int {
	steps := 0
	for steps < 5 && m.step() {
		steps++
	}
	for _, row := range []int{2, 1, 0} {
		if len(m.lists[row]) > 0 {
			return m.end(row)
		}
	}
	return -1
}

func (m *segmentedWords) Evict(id int) bool { return m.Remove(id) }

// memory is numbers, the oldest first.
type memory []uint64

func (g *memory) has(h uint64) bool { return slices.Contains(*g, h) }

func (g *memory) forget(h uint64) {
	*g = slices.DeleteFunc(slices.Clone(*g), func(n uint64) bool { return n == h })
}

func (g *memory) add(h uint64, most int) {
	g.forget(h)
	*g = append(*g, h)
	g.trim(most)
}

func (g *memory) trim(most int) {
	for len(*g) > most {
		*g = slices.Clone((*g)[1:])
	}
}

// adaptiveWords is chapter 13: once, again, B1, B2, P.
type adaptiveWords struct {
	lists
	number map[int]uint64
	b1, b2 memory
	cap, p int
}

func (m *adaptiveWords) Cap(n int) {
	m.cap = n
	if n < 0 {
		m.cap = 0
	}
	if m.p > m.cap {
		m.p = m.cap
	}
	m.b1.trim(m.cap)
	m.b2.trim(m.cap)
}

func (m *adaptiveWords) Insert(id int, h uint64) bool {
	if !m.mayCome(id) {
		return false
	}
	m.number[id] = h
	if m.b1.has(h) {
		more := len(m.b2) / len(m.b1)
		if more < 1 {
			more = 1
		}
		if m.p += more; m.p > m.cap {
			m.p = m.cap
		}
		m.b1.forget(h)
		m.front(1, id)
	} else if m.b2.has(h) {
		less := len(m.b1) / len(m.b2)
		if less < 1 {
			less = 1
		}
		if m.p -= less; m.p < 0 {
			m.p = 0
		}
		m.b2.forget(h)
		m.front(1, id)
	} else {
		m.front(0, id)
	}
	return true
}

func (m *adaptiveWords) Touch(id int) bool {
	if m.where(id) < 0 {
		return false
	}
	m.front(1, id)
	return true
}

func (m *adaptiveWords) Victim(h uint64) int {
	n := len(m.lists[0])
	if n > 0 && (n > m.p || n == m.p && m.b2.has(h) || len(m.lists[1]) == 0) {
		return m.end(0)
	}
	return m.end(1)
}

func (m *adaptiveWords) Evict(id int) bool {
	switch m.where(id) {
	case 0:
		m.b1.add(m.number[id], m.cap)
	case 1:
		m.b2.add(m.number[id], m.cap)
	}
	return m.Remove(id)
}

// threeWords is chapter 14: small, main, counts, a ghost.
type threeWords struct {
	lists
	number map[int]uint64
	count  map[int]int
	ghost  memory
	cap    int
}

func (m *threeWords) Cap(n int) {
	m.cap = n
	if n < 0 {
		m.cap = 0
	}
	m.ghost.trim(m.cap)
}

func (m *threeWords) Insert(id int, h uint64) bool {
	if !m.mayCome(id) {
		return false
	}
	m.number[id], m.count[id] = h, 0
	if m.ghost.has(h) {
		m.ghost.forget(h)
		m.front(1, id)
	} else {
		m.front(0, id)
	}
	return true
}

func (m *threeWords) Touch(id int) bool {
	if m.where(id) < 0 {
		return false
	}
	if m.count[id] < 3 {
		m.count[id]++
	}
	return true
}

func (m *threeWords) Victim(h uint64) int {
	for {
		most := m.cap / 10
		if most < 1 {
			most = 1
		}
		n := len(m.lists[0])
		if n > 0 && (n > most || len(m.lists[1]) == 0) {
			id := m.end(0)
			if m.count[id] < 2 {
				return id
			}
			m.count[id] = 0
			m.front(1, id)
		} else if len(m.lists[1]) > 0 {
			id := m.end(1)
			if m.count[id] == 0 {
				return id
			}
			m.count[id]--
			m.front(1, id)
		} else {
			return -1
		}
	}
}

func (m *threeWords) Evict(id int) bool {
	if m.where(id) == 0 {
		m.ghost.add(m.number[id], m.cap)
	}
	return m.Remove(id)
}
