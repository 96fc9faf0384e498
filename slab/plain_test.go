package slab_test

import (
	"bytes"
	"math"
	"slices"
	"strconv"
	"testing"

	"ambry/api"
	"ambry/arena"
	"ambry/slab"
)

const apart = 4096 // of the first chunks of two pages, one behind the other

// plain is what the chapter says of a slab, page by page.
type plain struct {
	page  int
	sizes []int
	pages []plainPage
	rows  [][]int // of each class, the top first
}

type plainPage struct {
	class  int // -1: not granted
	closed bool
	used   []int // chunks, in no order
	bytes  []byte
}

func newPlain(pages, page int, sizes []int) *plain {
	m := &plain{page: page, sizes: slices.Clone(sizes), rows: make([][]int, len(sizes))}
	for range pages {
		m.pages = append(m.pages, plainPage{class: -1, bytes: make([]byte, page)})
	}
	return m
}

func (m *plain) isClass(class int) bool { return 0 <= class && class <= len(m.sizes)-1 }

// at is the page of that number, if it is granted; else nil.
func (m *plain) at(p int) *plainPage {
	for i := range m.pages {
		if i == p && m.pages[i].class != -1 {
			return &m.pages[i]
		}
	}
	return nil
}

// of is the page in which the chunk is used; -1, if it is not.
func (m *plain) of(chunk int) int {
	return slices.IndexFunc(m.pages, func(p plainPage) bool { return slices.Contains(p.used, chunk) })
}

func (m *plain) lay(p int) {
	class := m.pages[p].class
	var free []int
	for place := 0; (place+1)*m.sizes[class] <= m.page; place++ {
		if chunk := p*apart + place; !slices.Contains(m.pages[p].used, chunk) {
			free = append(free, chunk)
		}
	}
	m.rows[class] = append(free, m.rows[class]...)
}

func (m *plain) alloc(class int) (int, api.Errno) {
	if !m.isClass(class) {
		return -1, api.ErrArg
	}
	if len(m.rows[class]) == 0 {
		p := slices.IndexFunc(m.pages, func(p plainPage) bool { return p.class == -1 })
		if p == -1 {
			return -1, api.ErrFull
		}
		m.pages[p].class = class
		m.lay(p)
	}
	chunk := m.rows[class][0]
	m.rows[class] = slices.Clone(m.rows[class][1:])
	p := &m.pages[chunk/apart]
	p.used = append(p.used, chunk)
	return chunk, api.OK
}

func (m *plain) free(chunk int) api.Errno {
	i := m.of(chunk)
	if i == -1 {
		return api.ErrChunk
	}
	p := &m.pages[i]
	p.used = slices.DeleteFunc(p.used, func(c int) bool { return c == chunk })
	if !p.closed {
		m.rows[p.class] = append([]int{chunk}, m.rows[p.class]...)
	}
	return api.OK
}

func (m *plain) where(chunk int) (int, int, int) {
	p := m.of(chunk)
	if p == -1 {
		return -1, 0, 0
	}
	size := m.sizes[m.pages[p].class]
	return p, (chunk - p*apart) * size, size
}

func (m *plain) counts(class int) (pages, used, row int) {
	if !m.isClass(class) {
		return
	}
	for _, p := range m.pages {
		if p.class == class {
			pages, used = pages+1, used+len(p.used)
		}
	}
	return pages, used, len(m.rows[class])
}

func (m *plain) chunks(p int) []int {
	if m.at(p) == nil {
		return nil
	}
	return slices.Sorted(slices.Values(m.at(p).used))
}

func (m *plain) close(p int) api.Errno {
	at := m.at(p)
	if at == nil || at.closed {
		return api.ErrPage
	}
	at.closed = true
	var others []int
	for _, chunk := range m.rows[at.class] {
		if chunk < p*apart || chunk >= (p+1)*apart {
			others = append(others, chunk)
		}
	}
	m.rows[at.class] = others
	return api.OK
}

func (m *plain) open(p int) api.Errno {
	at := m.at(p)
	if at == nil || !at.closed {
		return api.ErrPage
	}
	at.closed = false
	m.lay(p)
	return api.OK
}

func (m *plain) move(p, class int) api.Errno {
	at := m.at(p)
	switch {
	case at == nil || !at.closed:
		return api.ErrPage
	case !m.isClass(class):
		return api.ErrArg
	case len(at.used) > 0:
		return api.ErrBusy
	}
	at.class = class
	return m.open(p)
}

func (m *plain) put(chunk int, b []byte) api.Errno {
	p, at, size := m.where(chunk)
	switch {
	case p == -1:
		return api.ErrChunk
	case len(b) > size:
		return api.ErrLarge
	}
	copy(m.pages[p].bytes[at:], b)
	return api.OK
}

func (m *plain) get(chunk, n int) ([]byte, api.Errno) {
	p, at, size := m.where(chunk)
	switch {
	case p == -1:
		return nil, api.ErrChunk
	case n < 0 || n > size:
		return nil, api.ErrArg
	}
	return m.pages[p].bytes[at : at+n], api.OK
}

// pair is a slab with its arena, and what the chapter says of it: each call is done on both, and the answers are held against each other.
type pair struct {
	t *testing.T
	s *slab.Slab
	a *arena.Arena
	m *plain
}

// made is one of so many pages, without any yet.
func made(t *testing.T, pages, page int, sizes ...int) *pair {
	t.Helper()
	a, e := arena.New(pages, page)
	if e != api.OK {
		t.Fatalf("arena.New(%d, %d): %v", pages, page, e)
	}
	s, e := slab.New(a, sizes)
	if e != api.OK || s == nil {
		t.Fatalf("G1: New of %d pages of %d bytes, sizes %v: %v", pages, page, sizes, e)
	}
	return &pair{t, s, a, newPlain(pages, page, sizes)}
}

// alloc is as many calls of Alloc as chunks are wanted; with none, one whose answer the chapter says.
func (x *pair) alloc(class int, want ...int) {
	x.t.Helper()
	for _, chunk := range want {
		if m, e := x.m.alloc(class); m != chunk || e != api.OK {
			x.t.Fatalf("the test asks for chunk %d of class %d, and the chapter's words for %d, %v", chunk, class, m, e)
		}
		if got, e := x.s.Alloc(class); got != chunk || e != api.OK {
			x.t.Fatalf("G2: Alloc(%d) = %d, %v; want %d", class, got, e, chunk)
		}
	}
	if len(want) > 0 {
		return
	}
	m, mE := x.m.alloc(class)
	if got, e := x.s.Alloc(class); got != m || e != mE {
		x.t.Fatalf("G2: Alloc(%d) = %d, %v; want %d, %v", class, got, e, m, mE)
	}
}

// said is what a test asks that has no answer of its own, but takes the one that the chapter says.
const said api.Errno = -1

func (x *pair) held(call string, got, want, chapter api.Errno) {
	x.t.Helper()
	if want != chapter && want != said {
		x.t.Fatalf("the test asks %v of %s, and the chapter's words %v", want, call, chapter)
	}
	if got != chapter {
		x.t.Fatalf("%s = %v; want %v", call, got, chapter)
	}
}

func (x *pair) free(want api.Errno, chunks ...int) {
	x.t.Helper()
	for _, chunk := range chunks {
		x.held("G2: Free("+strconv.Itoa(chunk)+")", x.s.Free(chunk), want, x.m.free(chunk))
	}
}

func (x *pair) close(want api.Errno, pages ...int) {
	x.t.Helper()
	for _, p := range pages {
		x.held("G4: Close("+strconv.Itoa(p)+")", x.s.Close(p), want, x.m.close(p))
	}
}

func (x *pair) open(want api.Errno, pages ...int) {
	x.t.Helper()
	for _, p := range pages {
		x.held("G4: Open("+strconv.Itoa(p)+")", x.s.Open(p), want, x.m.open(p))
	}
}

func (x *pair) move(want api.Errno, p, class int) {
	x.t.Helper()
	x.held("G4: Move("+strconv.Itoa(p)+", "+strconv.Itoa(class)+")", x.s.Move(p, class), want, x.m.move(p, class))
}

func (x *pair) put(want api.Errno, chunk int, b []byte) {
	x.t.Helper()
	x.held("G5: Put("+strconv.Itoa(chunk)+", "+strconv.Itoa(len(b))+" bytes)", x.s.Put(chunk, b), want, x.m.put(chunk, b))
}

func (x *pair) get(want api.Errno, chunk, n int) {
	x.t.Helper()
	b, e := x.s.Get(chunk, n)
	m, mE := x.m.get(chunk, n)
	x.held("G5: Get("+strconv.Itoa(chunk)+", "+strconv.Itoa(n)+")", e, want, mE)
	if !bytes.Equal(b, m) {
		x.t.Fatalf("G5: Get(%d, %d) tells %d bytes that are not the chunk's", chunk, n, len(b))
	}
}

// same tells that the slab has what the chapter says, its rows' order among it, and that looking changes nothing.
func (x *pair) same(behind string) {
	x.t.Helper()
	x.sameCounts(behind)
	x.sameChunks(behind)
	x.sameBytes(behind)
	for class := range x.m.sizes {
		x.sameRow(behind, class)
	}
	x.sameCounts(behind + ", and a look at the rows")
}

func (x *pair) sameCounts(behind string) {
	x.t.Helper()
	granted := 0
	for class := -1; class <= len(x.m.sizes); class++ {
		pages, used, row := x.s.Counts(class)
		wantPages, wantUsed, wantRow := x.m.counts(class)
		if pages != wantPages || used != wantUsed || row != wantRow {
			x.t.Fatalf("G3: behind %s: Counts(%d) = %d, %d, %d; want %d, %d, %d", behind, class, pages, used, row, wantPages, wantUsed, wantRow)
		}
		granted += pages
	}
	if x.a.Granted() != granted {
		x.t.Fatalf("behind %s: %d pages are granted; want %d", behind, x.a.Granted(), granted)
	}
	for p := range x.m.pages {
		if got, want := x.a.Owner(p), x.m.pages[p].class; got != want {
			x.t.Fatalf("behind %s: page %d is class %d's; want %d", behind, p, got, want)
		}
	}
}

func (x *pair) sameChunks(behind string) {
	x.t.Helper()
	for p := -1; p <= len(x.m.pages); p++ {
		if got, want := x.s.Chunks(p), x.m.chunks(p); !slices.Equal(got, want) {
			x.t.Fatalf("G3: behind %s: Chunks(%d) = %v; want %v", behind, p, got, want)
		}
		for place := range x.m.page/64 + 2 {
			x.sameChunk(behind, p*apart+place)
		}
		x.sameChunk(behind, p*apart+1024)
		x.sameChunk(behind, p*apart+4095)
	}
}

func (x *pair) sameChunk(behind string, chunk int) {
	x.t.Helper()
	p, at, size := x.s.Where(chunk)
	wantP, wantAt, wantSize := x.m.where(chunk)
	if p != wantP || at != wantAt || size != wantSize {
		x.t.Fatalf("G3: behind %s: Where(%d) = %d, %d, %d; want %d, %d, %d", behind, chunk, p, at, size, wantP, wantAt, wantSize)
	}
	if got, want := x.s.Used(chunk), wantP != -1; got != want {
		x.t.Fatalf("G2: behind %s: Used(%d) = %v", behind, chunk, got)
	}
}

func (x *pair) sameBytes(behind string) {
	x.t.Helper()
	for p, page := range x.m.pages {
		if page.class == -1 {
			continue
		}
		if b, e := x.a.Read(p, 0, x.m.page); e != api.OK || !bytes.Equal(b, page.bytes) {
			x.t.Fatalf("G5: behind %s: page %d has other bytes (%v)", behind, p, e)
		}
		for _, chunk := range page.used {
			x.get(api.OK, chunk, x.m.sizes[page.class])
		}
	}
}

// sameRow takes all that stand in the class's row, one by one, and gives them back the other way round.
func (x *pair) sameRow(behind string, class int) {
	x.t.Helper()
	var got []int
	for range x.m.rows[class] {
		chunk, e := x.s.Alloc(class)
		if e != api.OK {
			x.t.Fatalf("G2: behind %s: Alloc(%d) of a row that is not empty: %v", behind, class, e)
		}
		got = append(got, chunk)
	}
	if !slices.Equal(got, x.m.rows[class]) {
		x.t.Fatalf("G2: behind %s: class %d's row is %v; want %v", behind, class, got, x.m.rows[class])
	}
	for _, chunk := range slices.Backward(got) {
		if e := x.s.Free(chunk); e != api.OK {
			x.t.Fatalf("G2: behind %s: Free(%d): %v", behind, chunk, e)
		}
	}
}

// wrongNumbers are no classes and no pages of a slab that has so many.
func wrongNumbers(n int) []int {
	return []int{-1, n, -2, n + 1, -n, -64, -1024, n + 1024, n + 65536, 1 << 32, 1<<32 + n - 1, 1 << 51, 1 << 52, math.MinInt, math.MinInt + 1, math.MinInt32, math.MaxInt32, math.MaxInt}
}

// wrongChunks are no chunks of a slab of so many pages and chunks in each.
func wrongChunks(pages, per int) []int {
	l := []int{
		-1, -2, -63, -4095, -4096, -4097, -8192, -4096 * pages, pages * apart, pages*apart + 1, 1024 * apart, 1 << 24, 1 << 32, 1<<32 + 1, 1<<32 + apart, 1 << 52, 1<<52 + 1,
		math.MinInt, math.MinInt + 1, math.MinInt + apart, math.MinInt32, math.MaxInt32, math.MaxInt, math.MaxInt - 4095,
	}
	for p := range pages {
		l = append(l, p*apart+per, p*apart+per+1, p*apart+1024, p*apart+2048, p*apart+4095)
	}
	return l
}

// pattern are n bytes that are told from those of another seed at most places.
func pattern(n, seed int) []byte {
	b := make([]byte, n)
	for i := range b {
		b[i] = byte(i*7 + i>>8 + seed*31 + seed>>8*17 + 1)
	}
	return b
}
