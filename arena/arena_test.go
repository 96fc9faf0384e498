package arena_test

import (
	"bytes"
	"math"
	"slices"
	"testing"

	"ambry/api"
	"ambry/arena"
)

const (
	lastOwner = 62
	least     = 512   // bytes of a page
	greatest  = 65536 // bytes of a page
)

// wrongOwners own nothing.
func wrongOwners() []int {
	return []int{-1, 63, -2, 64, -63, 255, 256, 1 << 32, 1<<32 + 5, math.MinInt, math.MinInt + 1, math.MinInt32, math.MaxInt32, math.MaxInt}
}

// wrongPages are no pages of an arena of so many.
func wrongPages(pages int) []int {
	return []int{-1, pages, -2, pages + 1, -pages, pages + 1024, 1 << 32, 1 << 55, math.MinInt, math.MinInt + 1, math.MinInt32, math.MaxInt32, math.MaxInt}
}

// made is an arena that New makes of these, which it takes.
func made(t *testing.T, pages, page int) *arena.Arena {
	t.Helper()
	a, e := arena.New(pages, page)
	if e != api.OK || a == nil {
		t.Fatalf("F1: New(%d, %d): %v", pages, page, e)
	}
	return a
}

// grant is the page that Grant gives to an owner.
func grant(t *testing.T, a *arena.Arena, owner, want int) {
	t.Helper()
	if p, e := a.Grant(owner); p != want || e != api.OK {
		t.Fatalf("F1: Grant(%d) = %d, %v; want %d", owner, p, e, want)
	}
}

// granted is an arena whose pages have these owners; those of owner -1 are free.
func granted(t *testing.T, page int, owners ...int) *arena.Arena {
	t.Helper()
	a := made(t, len(owners), page)
	for p, owner := range owners {
		grant(t, a, max(owner, 0), p)
	}
	for p, owner := range owners {
		if owner < 0 {
			ok(t, "F1: Return", a.Return(p))
		}
	}
	return a
}

func ok(t *testing.T, what string, e api.Errno) {
	t.Helper()
	if e != api.OK {
		t.Fatalf("%s: %v", what, e)
	}
}

func write(t *testing.T, a *arena.Arena, p, at int, b []byte) {
	t.Helper()
	if e := a.Write(p, at, b); e != api.OK {
		t.Fatalf("F3: Write(%d, %d, %d bytes): %v", p, at, len(b), e)
	}
}

func read(t *testing.T, a *arena.Arena, p, at, n int) []byte {
	t.Helper()
	b, e := a.Read(p, at, n)
	if e != api.OK || len(b) != n {
		t.Fatalf("F3: Read(%d, %d, %d): %d bytes, %v", p, at, n, len(b), e)
	}
	return b
}

// whole is all of a page's bytes.
func whole(t *testing.T, a *arena.Arena, p int) []byte {
	t.Helper()
	return read(t, a, p, 0, a.Page())
}

// pattern are n bytes that are told from those of another seed at most places.
func pattern(n, seed int) []byte {
	b := make([]byte, n)
	for i := range b {
		b[i] = byte(i*7 + i>>8 + seed*31 + 1)
	}
	return b
}

// plain is what the chapter says of an arena, a page at a time.
type plain struct {
	owners []int // -1: free
	pages  [][]byte
}

func newPlain(pages, page int) *plain {
	m := &plain{}
	for range pages {
		m.owners, m.pages = append(m.owners, -1), append(m.pages, make([]byte, page))
	}
	return m
}

func (m *plain) isFree(p int) bool {
	for i, owner := range m.owners {
		if i == p {
			return owner == -1
		}
	}
	return true // no page at all is as good as a free one
}

func (m *plain) grant(owner int) (int, api.Errno) {
	if owner < 0 || owner > lastOwner {
		return -1, api.ErrArg
	}
	for p := range m.owners {
		if m.isFree(p) {
			m.owners[p] = owner
			return p, api.OK
		}
	}
	return -1, api.ErrFull
}

func (m *plain) give(p, owner int) api.Errno {
	if m.isFree(p) {
		return api.ErrPage
	}
	m.owners[p] = owner
	return api.OK
}

func (m *plain) pass(p, owner int) api.Errno {
	if !m.isFree(p) && (owner < 0 || owner > lastOwner) {
		return api.ErrArg
	}
	return m.give(p, owner)
}

func (m *plain) part(p, at, n int) ([]byte, api.Errno) {
	if m.isFree(p) {
		return nil, api.ErrPage
	}
	page := len(m.pages[p])
	if at < 0 || n < 0 || at > page || n > page || at+n > page {
		return nil, api.ErrArg
	}
	return m.pages[p][at : at+n], api.OK
}

func (m *plain) granted() int {
	n := 0
	for p := range m.owners {
		if !m.isFree(p) {
			n++
		}
	}
	return n
}

func (m *plain) pagesOf(owner int) []int {
	var l []int
	for p, o := range m.owners {
		if owner >= 0 && o == owner {
			l = append(l, p)
		}
	}
	return l
}

// same tells that the arena has what m has: its owners, its counts, and the bytes of its granted pages.
func same(t *testing.T, behind string, a *arena.Arena, m *plain) {
	t.Helper()
	sameOwners(t, behind, a, m)
	for p, want := range m.pages {
		if m.isFree(p) {
			continue
		}
		if b, e := a.Read(p, 0, len(want)); e != api.OK || !bytes.Equal(b, want) {
			t.Fatalf("F3: behind %s: page %d has other bytes (%v)", behind, p, e)
		}
	}
}

func sameOwners(t *testing.T, behind string, a *arena.Arena, m *plain) {
	t.Helper()
	page := len(m.pages[0])
	if got := a.Page(); got != page {
		t.Fatalf("F2: behind %s: Page() = %d; want %d", behind, got, page)
	}
	if got, want := a.Granted(), m.granted(); got != want || got*a.Page() > len(m.owners)*page {
		t.Fatalf("F2: behind %s: Granted() = %d; want %d", behind, got, want)
	}
	for p, want := range m.owners {
		if got := a.Owner(p); got != want {
			t.Fatalf("F2: behind %s: Owner(%d) = %d; want %d", behind, p, got, want)
		}
	}
	for owner := -1; owner <= lastOwner+1; owner++ {
		if got, want := a.Pages(owner), m.pagesOf(owner); !slices.Equal(got, want) {
			t.Fatalf("F2: behind %s: Pages(%d) = %v; want %v", behind, owner, got, want)
		}
	}
}

func TestExamples(t *testing.T) {
	a := made(t, 2, 512)
	grant(t, a, 5, 0)
	grant(t, a, 5, 1)
	if p, e := a.Grant(5); p != -1 || e != api.ErrFull {
		t.Errorf("F1: Grant(5) of a full one = %d, %v", p, e)
	}
	ok(t, "F1: Return(0)", a.Return(0))
	grant(t, a, 7, 0)
	if l := a.Pages(5); !slices.Equal(l, []int{1}) {
		t.Errorf("F2: Pages(5) = %v", l)
	}
	if e := a.Write(1, 510, []byte("abc")); e != api.ErrArg {
		t.Errorf("F3: Write(1, 510, three bytes) = %v", e)
	}
}

// Each arena has so many pages, which are free at first and of noughts.
func TestNew(t *testing.T) {
	for _, c := range []struct{ pages, page int }{
		{1, least}, {2, least}, {3, 520}, {7, 1000}, {64, 4096}, {1023, least}, {1024, least}, {1, 65528}, {1, greatest}, {1024, greatest},
	} {
		a := made(t, c.pages, c.page)
		if a.Page() != c.page || a.Granted() != 0 {
			t.Errorf("F2: New(%d, %d): Page() = %d, Granted() = %d", c.pages, c.page, a.Page(), a.Granted())
		}
		for p := range c.pages {
			if owner := a.Owner(p); owner != -1 {
				t.Fatalf("F1: New(%d, %d): page %d is owner %d's", c.pages, c.page, p, owner)
			}
		}
		noughts := make([]byte, c.page)
		for p := range c.pages {
			grant(t, a, p%(lastOwner+1), p)
			if !bytes.Equal(whole(t, a, p), noughts) {
				t.Fatalf("F1: New(%d, %d): page %d is not of noughts", c.pages, c.page, p)
			}
		}
		if p, e := a.Grant(0); p != -1 || e != api.ErrFull || a.Granted() != c.pages {
			t.Errorf("F1: New(%d, %d): behind all pages Grant(0) = %d, %v, and %d are granted", c.pages, c.page, p, e, a.Granted())
		}
	}
}

func TestNewOfPages(t *testing.T) {
	l := []int{math.MinInt, math.MinInt + 1, math.MinInt32, -65536, math.MaxInt32, 1 << 32, 1<<32 + 1, 1 << 60, math.MaxInt - 1, math.MaxInt}
	for n := -1100; n <= 2100; n++ {
		l = append(l, n)
	}
	for _, pages := range l {
		a, e := arena.New(pages, least)
		if pages >= 1 && pages <= 1024 {
			if e != api.OK || a == nil {
				t.Errorf("F1: New(%d, %d): %v", pages, least, e)
			}
			continue
		}
		for _, page := range []int{least, greatest, 0, 513} {
			if a, e := arena.New(pages, page); a != nil || e != api.ErrArg {
				t.Errorf("F1: New(%d, %d): %v; want ErrArg and nil", pages, page, e)
			}
		}
	}
}

func TestNewOfBytes(t *testing.T) {
	l := []int{math.MinInt, math.MinInt + 8, math.MinInt32, -65536, -512, 1 << 20, 1 << 32, 1<<32 + 512, 1 << 60, math.MaxInt - 7, math.MaxInt}
	for n := -1100; n <= 67000; n++ {
		l = append(l, n)
	}
	for _, page := range l {
		a, e := arena.New(1, page)
		switch may := page >= least && page <= greatest && page%8 == 0; {
		case may && (e != api.OK || a == nil || a.Page() != page):
			t.Errorf("F1: New(1, %d): %v", page, e)
		case !may && (a != nil || e != api.ErrArg):
			t.Errorf("F1: New(1, %d): %v; want ErrArg and nil", page, e)
		}
	}
}

func TestGrantIsTheLeastFreePage(t *testing.T) {
	const pages = 6
	for free := range 1 << pages {
		owners := make([]int, pages)
		for p := range owners {
			owners[p] = 10 + p
			if free>>p&1 == 1 {
				owners[p] = -1
			}
		}
		a, m := granted(t, least, owners...), newPlain(pages, least)
		copy(m.owners, owners)
		sameOwners(t, "the returns", a, m)
		for p := range pages {
			if owners[p] == -1 {
				grant(t, a, lastOwner, p)
				m.owners[p] = lastOwner
				sameOwners(t, "a grant", a, m)
			}
		}
		if p, e := a.Grant(lastOwner); p != -1 || e != api.ErrFull {
			t.Fatalf("F1: Grant of a full one = %d, %v", p, e)
		}
		sameOwners(t, "a grant that is refused", a, m)
	}
}

func TestGrantToEachOwner(t *testing.T) {
	a, m := made(t, lastOwner+1, least), newPlain(lastOwner+1, least)
	for owner := lastOwner; owner >= 0; owner-- {
		p := lastOwner - owner
		grant(t, a, owner, p)
		m.owners[p] = owner
		sameOwners(t, "a grant", a, m)
	}
}

// An owner that may not be is told ahead of a row that is full, and changes nothing.
func TestGrantToNoOwner(t *testing.T) {
	for _, owners := range [][]int{{-1}, {3}, {4, -1, 5}, {0, lastOwner}} {
		a, m := granted(t, least, owners...), newPlain(len(owners), least)
		copy(m.owners, owners)
		for _, owner := range wrongOwners() {
			if p, e := a.Grant(owner); p != -1 || e != api.ErrArg {
				t.Errorf("F1: Grant(%d) = %d, %v; want -1, ErrArg", owner, p, e)
			}
			sameOwners(t, "a grant to no owner", a, m)
		}
	}
}

func TestReturn(t *testing.T) {
	a, m := granted(t, least, 4, 4, 5, lastOwner), newPlain(4, least)
	copy(m.owners, []int{4, 4, 5, lastOwner})
	for _, p := range []int{2, 0, 3, 1} {
		ok(t, "F1: Return", a.Return(p))
		m.owners[p] = -1
		sameOwners(t, "a return", a, m)
		if e := a.Return(p); e != api.ErrPage {
			t.Errorf("F1: Return(%d) of a free page = %v; want ErrPage", p, e)
		}
		sameOwners(t, "a return that is refused", a, m)
	}
}

func TestReturnOfNoPage(t *testing.T) {
	for _, owners := range [][]int{{3}, {-1}, {3, -1, 5}, {-1, 0, lastOwner}} {
		a, m := granted(t, least, owners...), newPlain(len(owners), least)
		copy(m.owners, owners)
		for _, p := range wrongPages(len(owners)) {
			if e := a.Return(p); e != api.ErrPage {
				t.Errorf("F1: Return(%d) of %d pages = %v; want ErrPage", p, len(owners), e)
			}
			sameOwners(t, "a return of no page", a, m)
		}
	}
}

func TestPass(t *testing.T) {
	a, m := granted(t, least, 4, 4, -1, 5), newPlain(4, least)
	copy(m.owners, []int{4, 4, -1, 5})
	for _, c := range []struct{ p, owner int }{{1, 9}, {0, 0}, {3, lastOwner}, {3, 4}, {1, 9}, {1, 4}, {0, 4}} {
		if e := a.Pass(c.p, c.owner); e != api.OK {
			t.Errorf("F1: Pass(%d, %d) = %v", c.p, c.owner, e)
		}
		m.owners[c.p] = c.owner
		sameOwners(t, "a pass", a, m)
	}
	grant(t, a, 1, 2)
	for owner := range lastOwner + 1 {
		if e := a.Pass(2, owner); e != api.OK || a.Owner(2) != owner {
			t.Errorf("F1: Pass(2, %d) = %v, and the owner is %d", owner, e, a.Owner(2))
		}
	}
}

// Of a page that may not be passed and an owner that may not be, the page is told.
func TestPassThatMayNotBe(t *testing.T) {
	owners := []int{3, -1, 5}
	a, m := granted(t, least, owners...), newPlain(len(owners), least)
	copy(m.owners, owners)
	for _, p := range append(wrongPages(len(owners)), 1) {
		for _, owner := range append(wrongOwners(), 0, 3, lastOwner) {
			if e := a.Pass(p, owner); e != api.ErrPage {
				t.Errorf("F1: Pass(%d, %d) = %v; want ErrPage", p, owner, e)
			}
			sameOwners(t, "a pass of no page", a, m)
		}
	}
	for _, p := range []int{0, 2} {
		for _, owner := range wrongOwners() {
			if e := a.Pass(p, owner); e != api.ErrArg {
				t.Errorf("F1: Pass(%d, %d) = %v; want ErrArg", p, owner, e)
			}
			sameOwners(t, "a pass to no owner", a, m)
		}
	}
}

func TestOwnerOfNoPage(t *testing.T) {
	for _, owners := range [][]int{{0}, {-1}, {lastOwner, -1, 1}} {
		a := granted(t, least, owners...)
		for _, p := range wrongPages(len(owners)) {
			if owner := a.Owner(p); owner != -1 {
				t.Errorf("F2: Owner(%d) of %d pages = %d; want -1", p, len(owners), owner)
			}
		}
	}
}

// Pages that are free are nobody's, and those of other owners not this one's.
func TestPagesOfNoOwner(t *testing.T) {
	for _, owners := range [][]int{{-1, -1, -1}, {0, -1, lastOwner}, {0, 0, 0}, {lastOwner}} {
		a := granted(t, least, owners...)
		for _, owner := range append(wrongOwners(), 17) {
			if l := a.Pages(owner); len(l) != 0 {
				t.Errorf("F2: Pages(%d) of %v = %v; want none", owner, owners, l)
			}
		}
	}
}

func TestPagesRise(t *testing.T) {
	a, m := made(t, 1024, least), newPlain(1024, least)
	for p := range 1024 {
		owner := p * 5 % 7
		grant(t, a, owner, p)
		m.owners[p] = owner
	}
	for p := 1023; p >= 0; p -= 3 {
		ok(t, "F1: Pass", a.Pass(p, 2))
		m.owners[p] = 2
	}
	for p := 0; p < 1024; p += 5 {
		ok(t, "F1: Return", a.Return(p))
		m.owners[p] = -1
	}
	sameOwners(t, "passes and returns", a, m)
}

// What a page is granted for, and by what ways it came, says nothing about its size.
func TestPageIsTheSame(t *testing.T) {
	for _, page := range []int{least, 520, 1000, 65528, greatest} {
		a := made(t, 2, page)
		grant(t, a, 1, 0)
		ok(t, "F1: Pass", a.Pass(0, 2))
		ok(t, "F1: Return", a.Return(0))
		if got := a.Page(); got != page {
			t.Errorf("F2: Page() = %d; want %d", got, page)
		}
	}
}

func TestWriteAndReadOfEachPlace(t *testing.T) {
	a, m := granted(t, least, 1, 2, 3), newPlain(3, least)
	copy(m.owners, []int{1, 2, 3})
	for at := range least + 1 {
		for _, n := range []int{0, 1, 2, 3, 8, least - at - 1, least - at} {
			if n < 0 || at+n > least {
				continue
			}
			b := pattern(n, at+n)
			write(t, a, 1, at, b)
			copy(m.pages[1][at:], b)
			if got := read(t, a, 1, at, n); !bytes.Equal(got, b) {
				t.Fatalf("F3: Read(1, %d, %d) tells other bytes than were written", at, n)
			}
		}
		same(t, "a write", a, m)
	}
}

func TestReadOfAPart(t *testing.T) {
	a := granted(t, 520, 1, 1)
	want := pattern(520, 3)
	write(t, a, 1, 0, want)
	for at := range 521 {
		for n := 0; at+n <= 520; n += 1 + at%5 {
			if got := read(t, a, 1, at, n); !bytes.Equal(got, want[at:at+n]) {
				t.Fatalf("F3: Read(1, %d, %d) = %v", at, n, got)
			}
		}
		if got := read(t, a, 1, at, 520-at); !bytes.Equal(got, want[at:]) {
			t.Fatalf("F3: Read(1, %d, %d) = %v", at, 520-at, got)
		}
	}
}

// No bytes at all may stand at each place of a page, its end among them.
func TestWriteAndReadOfNoBytes(t *testing.T) {
	for _, page := range []int{least, greatest} {
		a, m := granted(t, page, 6), newPlain(1, page)
		m.owners[0] = 6
		for _, at := range []int{0, 1, page - 1, page} {
			for _, b := range [][]byte{nil, {}} {
				write(t, a, 0, at, b)
			}
			read(t, a, 0, at, 0)
		}
		same(t, "writes of no bytes", a, m)
		for _, at := range []int{-1, page + 1, math.MinInt, math.MaxInt} {
			if e := a.Write(0, at, nil); e != api.ErrArg {
				t.Errorf("F3: Write(0, %d, no bytes) = %v; want ErrArg", at, e)
			}
			if b, e := a.Read(0, at, 0); e != api.ErrArg || len(b) != 0 {
				t.Errorf("F3: Read(0, %d, 0) = %v, %v; want ErrArg", at, b, e)
			}
		}
	}
}

// refused tells that both calls answer the error, nothing beside it, and change nothing.
func refused(t *testing.T, a *arena.Arena, m *plain, p, at, n int, want api.Errno) {
	t.Helper()
	if b, e := a.Read(p, at, n); e != want || len(b) != 0 {
		t.Errorf("F3: Read(%d, %d, %d) = %d bytes, %v; want %v", p, at, n, len(b), e, want)
	}
	if n >= 0 && n <= 1<<20 {
		if e := a.Write(p, at, bytes.Repeat([]byte{255}, n)); e != want {
			t.Errorf("F3: Write(%d, %d, %d bytes) = %v; want %v", p, at, n, e, want)
		}
	}
	same(t, "a call that is refused", a, m)
}

func TestWriteAndReadBeyondThePage(t *testing.T) {
	for _, page := range []int{least, 65528, greatest} {
		a, m := granted(t, page, 1, 2, 3), newPlain(3, page)
		copy(m.owners, []int{1, 2, 3})
		for p := range 3 {
			m.pages[p] = pattern(page, p)
			write(t, a, p, 0, m.pages[p])
		}
		for p := range 3 {
			for _, c := range []struct{ at, n int }{
				{0, page + 1}, {1, page}, {page - 2, 3}, {page - 1, 2}, {page, 1}, {page + 1, 0}, {page + 1, 1}, {2 * page, 1}, {0, 2 * page},
				{page / 2, page/2 + 1}, {-1, 1}, {-1, 0}, {-1, 2}, {-page, page}, {-page, 2 * page}, {-1, -1}, {0, -1}, {1, -1}, {page, -1}, {page, -page},
				{page + 1, -1}, {2 * page, -page}, {math.MaxInt, 1}, {math.MaxInt, math.MaxInt}, {1, math.MaxInt}, {0, math.MaxInt}, {page, math.MaxInt},
				{math.MinInt, 1}, {math.MinInt, math.MinInt}, {math.MinInt, math.MaxInt}, {math.MaxInt, math.MinInt}, {0, math.MinInt},
				{math.MinInt, 0}, {math.MaxInt, 0}, {1 << 32, 1}, {0, 1 << 32}, {math.MaxInt - page + 1, page},
			} {
				refused(t, a, m, p, c.at, c.n, api.ErrArg)
			}
		}
	}
}

// A page that is not granted is told ahead of a place that may not be.
func TestWriteAndReadOfNoPage(t *testing.T) {
	a, m := granted(t, least, 1, -1, 3), newPlain(3, least)
	copy(m.owners, []int{1, -1, 3})
	for _, p := range append(wrongPages(3), 1) {
		for _, c := range []struct{ at, n int }{{0, 1}, {0, 0}, {0, least}, {least, 0}, {0, least + 1}, {-1, 1}, {-least, 1}, {least, 1}, {0, -1}, {math.MaxInt, math.MaxInt}} {
			refused(t, a, m, p, c.at, c.n, api.ErrPage)
		}
	}
}

// Bytes of one page have nothing to do with those of another one, up to both ends.
func TestPagesLieApart(t *testing.T) {
	for _, page := range []int{least, 1000, greatest} {
		const pages = 5
		a, m := made(t, pages, page), newPlain(pages, page)
		for p := range pages {
			grant(t, a, p, p)
			m.owners[p] = p
		}
		for _, p := range []int{2, 0, 4, 1, 3} {
			m.pages[p] = pattern(page, p)
			write(t, a, p, 0, m.pages[p])
			same(t, "a whole page's write", a, m)
		}
		for p := range pages {
			m.pages[p][0], m.pages[p][page-1] = byte(100+p), byte(200+p)
			write(t, a, p, 0, []byte{byte(100 + p)})
			write(t, a, p, page-1, []byte{byte(200 + p)})
			same(t, "a write at a page's ends", a, m)
		}
	}
}

func TestAllPagesLieApart(t *testing.T) {
	const pages = 1024
	a, m := made(t, pages, greatest), newPlain(pages, greatest)
	for p := range pages {
		grant(t, a, p%5, p)
		m.owners[p], m.pages[p] = p%5, pattern(greatest, p)
		write(t, a, p, 0, m.pages[p])
	}
	same(t, "all pages' writes", a, m)
}

// A page keeps its bytes while it is passed, returned and granted again.
func TestBytesStay(t *testing.T) {
	const page = 520
	a := granted(t, page, 5, 6, 7)
	for p := range 3 {
		write(t, a, p, 0, pattern(page, p))
	}
	keeps := func(behind string) {
		t.Helper()
		for p := range 3 {
			if !bytes.Equal(whole(t, a, p), pattern(page, p)) {
				t.Errorf("F1: behind %s page %d has other bytes", behind, p)
			}
		}
	}
	ok(t, "F1: Pass", a.Pass(1, 9))
	keeps("a pass")
	ok(t, "F1: Return", a.Return(1))
	grant(t, a, 9, 1)
	keeps("a return and a grant")
	for _, p := range []int{2, 0, 1} {
		ok(t, "F1: Return", a.Return(p))
	}
	for p := range 3 {
		grant(t, a, lastOwner-p, p)
	}
	keeps("all pages' returns and grants")
}

// R1: what is written is not kept, and stays as it was; what stands behind it is not taken.
func TestWhatIsWrittenStays(t *testing.T) {
	a := granted(t, least, 1, 2)
	all := pattern(least, 1)
	b := all[:100]
	write(t, a, 0, 0, b)
	if !bytes.Equal(all, pattern(least, 1)) {
		t.Error("R1: Write changed what it was handed")
	}
	if got := read(t, a, 0, 100, least-100); !bytes.Equal(got, make([]byte, least-100)) {
		t.Error("F3: Write wrote more than its bytes")
	}
	clear(all)
	if got := read(t, a, 0, 0, 100); !bytes.Equal(got, pattern(100, 1)) {
		t.Error("R1: Write keeps what it was handed")
	}
	write(t, a, 1, 0, pattern(100, 1))
	if !bytes.Equal(all, make([]byte, least)) {
		t.Error("R1: a later Write changed what an earlier one was handed")
	}
}

// R1: what is read is the caller's, with all that can be put behind it; a later write does not change it.
func TestWhatIsReadIsTheCallers(t *testing.T) {
	a, m := granted(t, least, 1, 2), newPlain(2, least)
	copy(m.owners, []int{1, 2})
	for p := range 2 {
		m.pages[p] = pattern(least, p)
		write(t, a, p, 0, m.pages[p])
	}
	for _, c := range []struct{ at, n int }{{0, 10}, {0, 0}, {0, least}, {least - 10, 10}, {least, 0}, {7, 100}} {
		b := read(t, a, 0, c.at, c.n)
		other := read(t, a, 0, c.at, c.n)
		clear(b)
		clear(b[:cap(b)])
		_ = append(b, 1, 2, 3)
		if !bytes.Equal(other, m.pages[0][c.at:c.at+c.n]) {
			t.Errorf("R1: two answers of Read(0, %d, %d) share their bytes", c.at, c.n)
		}
		same(t, "writing over an answer", a, m)
	}
	b := read(t, a, 0, 0, least)
	write(t, a, 0, 0, make([]byte, least))
	if !bytes.Equal(b, m.pages[0]) {
		t.Error("R1: a write changed what was read ahead of it")
	}
}

func TestPagesAreTheCallers(t *testing.T) {
	a, m := granted(t, least, 4, 4, 5, 4), newPlain(4, least)
	copy(m.owners, []int{4, 4, 5, 4})
	l, other := a.Pages(4), a.Pages(4)
	clear(l)
	_ = append(l[:0], 9, 9, 9, 9)
	if !slices.Equal(other, []int{0, 1, 3}) {
		t.Errorf("R1: Pages(4) = %v, behind writing over another answer", other)
	}
	sameOwners(t, "writing over an answer", a, m)
	ok(t, "F1: Return", a.Return(0))
	if !slices.Equal(other, []int{0, 1, 3}) {
		t.Errorf("R1: a return changed what was told ahead of it: %v", other)
	}
}

// dice are numbers that look like chance, and are the same ones each time.
type dice uint64

func (d *dice) below(n int) int {
	*d = *d*6364136223846793005 + 1442695040888963407
	return int(uint64(*d) >> 33 % uint64(n))
}

// pick is one of the wrong numbers at times, else one below n.
func (d *dice) pick(n int, wrong []int) int {
	if d.below(8) == 0 {
		return wrong[d.below(len(wrong))]
	}
	return d.below(n)
}

// act does one call, whatever the dice say, on both, and holds the answers against each other.
func act(t *testing.T, d *dice, a *arena.Arena, m *plain) {
	t.Helper()
	pages, page := len(m.owners), len(m.pages[0])
	p, owner := d.pick(pages, wrongPages(pages)), d.pick(lastOwner+1, wrongOwners())
	if d.below(2) == 0 {
		owner %= 3
	}
	at := d.pick(page+1, []int{-1, page, page + 1, math.MinInt, math.MaxInt})
	n := d.pick(max(1, min(page, page-at)+2), []int{0, page, page + 1})
	switch d.below(6) {
	case 0, 1:
		got, e := a.Grant(owner)
		if want, wantE := m.grant(owner); got != want || e != wantE {
			t.Fatalf("F1: Grant(%d) = %d, %v; want %d, %v", owner, got, e, want, wantE)
		}
	case 2:
		if e, want := a.Return(p), m.give(p, -1); e != want {
			t.Fatalf("F1: Return(%d) = %v; want %v", p, e, want)
		}
	case 3:
		if e, want := a.Pass(p, owner), m.pass(p, owner); e != want {
			t.Fatalf("F1: Pass(%d, %d) = %v; want %v", p, owner, e, want)
		}
	case 4:
		b := pattern(n, d.below(256))
		part, want := m.part(p, at, n)
		if e := a.Write(p, at, b); e != want {
			t.Fatalf("F3: Write(%d, %d, %d bytes) = %v; want %v", p, at, n, e, want)
		}
		copy(part, b)
	case 5:
		want, wantE := m.part(p, at, n)
		if b, e := a.Read(p, at, n); e != wantE || !bytes.Equal(b, want) {
			t.Fatalf("F3: Read(%d, %d, %d) = %d bytes, %v; want %d, %v", p, at, n, len(b), e, len(want), wantE)
		}
	}
}

// Several arenas by turns: none has anything to do with another one, and the same calls have the same answers.
func TestByTurns(t *testing.T) {
	shapes := []struct{ pages, page int }{{1, least}, {2, least}, {2, least}, {5, 520}, {9, 1000}, {30, least}}
	for seed := range 20 {
		d := dice(seed)
		var arenas []*arena.Arena
		var models []*plain
		for _, s := range shapes {
			arenas, models = append(arenas, made(t, s.pages, s.page)), append(models, newPlain(s.pages, s.page))
		}
		for step := range 3000 {
			i := d.below(len(shapes))
			act(t, &d, arenas[i], models[i])
			if step%10 == 0 {
				for i := range shapes {
					same(t, "calls by turns", arenas[i], models[i])
				}
			}
		}
	}
}
