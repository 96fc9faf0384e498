package slab_test

import (
	"bytes"
	"math"
	"slices"
	"testing"

	"ambry/api"
	"ambry/arena"
	"ambry/slab"
)

// most are 63 sizes, for pages of 1024 bytes or more.
func most(page int) []int {
	var l []int
	for i := range 62 {
		l = append(l, 64+i*8)
	}
	return append(l, page)
}

// upTo are the numbers of the page's first n chunks.
func upTo(page, n int) []int {
	var l []int
	for place := range n {
		l = append(l, page*apart+place)
	}
	return l
}

func TestExamples(t *testing.T) {
	x := made(t, 2, 512, 64, 512)
	x.alloc(0, 0, 1)
	x.alloc(1, 4096)
	if chunk, e := x.s.Alloc(1); chunk != -1 || e != api.ErrFull {
		t.Errorf("G2: Alloc(1) of a full one = %d, %v", chunk, e)
	}
	x.free(api.OK, 0)
	x.alloc(0, 0)
	x.close(api.OK, 0)
	x.move(api.ErrBusy, 0, 1)
	x.free(api.OK, 0, 1)
	x.move(api.OK, 0, 1)
	x.alloc(1, 0)
	x.same("the example")
}

// A new one has classes, and no pages.
func TestNew(t *testing.T) {
	for _, c := range []struct {
		pages, page int
		sizes       []int
	}{
		{1, 512, []int{64}}, {1, 512, []int{512}}, {1, 512, []int{511}}, {1, 512, []int{64, 512}}, {3, 512, []int{64, 65}}, {2, 520, []int{513, 520}},
		{2, 1000, []int{101, 102, 103}}, {4, 1024, most(1024)}, {4, 1024, most(1024)[:62]}, {4, 1024, most(1024)[1:]}, {1024, 65536, []int{64, 65536}}, {1, 65536, []int{65535, 65536}},
	} {
		x := made(t, c.pages, c.page, c.sizes...)
		if x.a.Granted() != 0 {
			t.Errorf("G1: New of sizes %v: %d pages are granted", c.sizes, x.a.Granted())
		}
		for class := -1; class <= len(c.sizes); class++ {
			if pages, used, row := x.s.Counts(class); pages != 0 || used != 0 || row != 0 {
				t.Errorf("G1: New of sizes %v: Counts(%d) = %d, %d, %d", c.sizes, class, pages, used, row)
			}
		}
		for p := range c.pages {
			if l := x.s.Chunks(p); len(l) != 0 || x.s.Used(p*apart) {
				t.Fatalf("G1: New of sizes %v: Chunks(%d) = %v", c.sizes, p, l)
			}
		}
	}
}

// Each size of one class alone, and each pair of sizes: they rise, and lie between 64 and the page.
func TestNewOfEachSize(t *testing.T) {
	for _, page := range []int{512, 520, 65536} {
		a, _ := arena.New(1, page)
		l := []int{math.MinInt, math.MinInt32, -page, -64, math.MaxInt32, 1<<32 + 64, 1<<32 + page, math.MaxInt}
		for n := -70; n <= 700; n++ {
			l = append(l, n)
		}
		for n := page - 20; n <= page+20; n++ {
			l = append(l, n)
		}
		for _, size := range l {
			may := size >= 64 && size <= page
			asked(t, a, []int{size}, may)
			for _, other := range []int{64, 65, 100, size - 1, size, size + 1, page} {
				asked(t, a, []int{size, other}, may && other > size && other <= page)
				asked(t, a, []int{other, size}, may && other < size && other >= 64)
			}
		}
	}
}

// asked tells whether New takes such sizes, and that nothing is changed by it.
func asked(t *testing.T, a *arena.Arena, sizes []int, may bool) {
	t.Helper()
	was := slices.Clone(sizes)
	s, e := slab.New(a, sizes)
	if may && (s == nil || e != api.OK) {
		t.Fatalf("G1: New of sizes %v in pages of %d bytes: %v", sizes, a.Page(), e)
	}
	if !may && (s != nil || e != api.ErrArg) {
		t.Fatalf("G1: New of sizes %v in pages of %d bytes: %v; want ErrArg and nil", sizes, a.Page(), e)
	}
	if !slices.Equal(sizes, was) || a.Granted() != 0 {
		t.Fatalf("G1: New of sizes %v changed them, or granted pages", was)
	}
}

func TestNewOfSizes(t *testing.T) {
	a, _ := arena.New(2, 1024)
	asked(t, a, nil, false)
	asked(t, a, []int{}, false)
	var l []int
	for n := range 200 {
		l = append(l, 64+n)
		asked(t, a, l, len(l) <= 63)
	}
	for i := range 63 {
		for _, c := range []struct {
			size int
			may  bool
		}{{63, false}, {0, false}, {-64, false}, {1025, false}, {1 << 32, false}, {math.MinInt, false}, {math.MaxInt, false}} {
			l := most(1024)
			l[i] = c.size
			asked(t, a, l, c.may)
		}
		if i == 0 {
			continue
		}
		for _, less := range []int{0, 1, 8} {
			l := most(1024)
			l[i] = l[i-1] - less
			asked(t, a, l, false)
		}
		l := most(1024)
		l[i] = l[i-1] + 1
		asked(t, a, l, true)
	}
}

func TestNewOfNoArena(t *testing.T) {
	for _, sizes := range [][]int{{64}, {64, 512}, nil, {63}, most(1024)} {
		if s, e := slab.New(nil, sizes); s != nil || e != api.ErrArg {
			t.Errorf("G1: New of no arena and sizes %v: %v; want ErrArg and nil", sizes, e)
		}
	}
}

func TestNewOfGrantedPages(t *testing.T) {
	a, _ := arena.New(3, 512)
	for _, owner := range []int{0, 62, 5} {
		a.Grant(owner)
	}
	for p := range 3 {
		if s, e := slab.New(a, []int{64, 512}); s != nil || e != api.ErrArg {
			t.Errorf("G1: New with %d pages granted: %v; want ErrArg and nil", a.Granted(), e)
		}
		if a.Granted() != 3-p {
			t.Errorf("G1: a New that is refused changed the arena")
		}
		a.Write(p, 0, pattern(512, p))
		a.Return(p)
	}
	// What was granted once is not granted any more; the pages' bytes are as they were.
	s, e := slab.New(a, []int{64, 512})
	if s == nil || e != api.OK {
		t.Fatalf("G1: New behind the returns: %v", e)
	}
	x := &pair{t, s, a, newPlain(3, 512, []int{64, 512})}
	for p := range x.m.pages {
		x.m.pages[p].bytes = pattern(512, p)
	}
	x.alloc(1, 0)
	x.alloc(0, 4096)
	x.same("allocations")
}

// A slab grants pages of the arena that was handed to it, and is not in another one's way.
func TestNewOfTheArena(t *testing.T) {
	x, y := made(t, 2, 512, 64, 512), made(t, 2, 512, 64, 512)
	x.alloc(1, 0, 4096)
	y.alloc(0, 0)
	x.free(api.OK, 0)
	y.alloc(1, 4096)
	x.same("calls by turns")
	y.same("calls by turns")
}

// All chunks of a class, page by page, each page's lowest first; behind the last one it is full.
func TestAllocOfOneClass(t *testing.T) {
	for _, c := range []struct{ pages, page, size, per int }{
		{1, 512, 64, 8}, {3, 512, 64, 8}, {2, 512, 65, 7}, {2, 512, 73, 7}, {2, 512, 74, 6}, {2, 512, 128, 4}, {2, 512, 170, 3}, {2, 512, 171, 2}, {2, 512, 256, 2},
		{2, 512, 257, 1}, {3, 512, 511, 1}, {3, 512, 512, 1}, {2, 520, 64, 8}, {2, 1000, 64, 15}, {4, 1000, 333, 3}, {2, 1000, 334, 2}, {2, 65536, 64, 1024}, {2, 65536, 65, 1008},
		{2, 65528, 64, 1023}, {2, 65528, 65528, 1},
	} {
		x := made(t, c.pages, c.page, c.size)
		for p := range c.pages {
			for place := range c.per {
				x.alloc(0, p*apart+place)
				if page, at, size := x.s.Where(p*apart + place); page != p || at != place*c.size || size != c.size {
					t.Fatalf("G3: Where(%d) = %d, %d, %d", p*apart+place, page, at, size)
				}
				if pages, used, row := x.s.Counts(0); pages != p+1 || used != p*c.per+place+1 || row != c.per-place-1 {
					t.Fatalf("G3: size %d: Counts(0) = %d, %d, %d behind chunk %d of page %d", c.size, pages, used, row, place, p)
				}
			}
		}
		for range 2 {
			if chunk, e := x.s.Alloc(0); chunk != -1 || e != api.ErrFull {
				t.Fatalf("G2: size %d: Alloc(0) of a full one = %d, %v; want -1, ErrFull", c.size, chunk, e)
			}
		}
		x.sameCounts("all allocations")
		last := (c.pages-1)*apart + c.per - 1
		x.free(api.OK, last)
		x.alloc(0, last)
	}
}

// A class that has no chunk in its row is granted the next page, whatever the others have.
func TestAllocOfClasses(t *testing.T) {
	x := made(t, 5, 512, 64, 100, 200, 512)
	x.alloc(2, 0)
	x.alloc(0, 4096, 4097)
	x.alloc(2, 1)
	x.alloc(3, 8192)
	x.alloc(2, 12288)
	x.alloc(0, 4098)
	x.alloc(1, 16384)
	x.same("allocations")
	x.alloc(1, 16385, 16386, 16387, 16388)
	for _, class := range []int{1, 3} {
		if chunk, e := x.s.Alloc(class); chunk != -1 || e != api.ErrFull {
			t.Errorf("G2: Alloc(%d) = %d, %v; want -1, ErrFull", class, chunk, e)
		}
	}
	x.same("allocations that are refused")
	x.alloc(0, 4099)
	x.alloc(2, 12289)
	x.same("allocations of the others")
}

func TestAllocOfMostClasses(t *testing.T) {
	sizes := most(1024)
	x := made(t, 63, 1024, sizes...)
	for i := range 63 {
		class := i * 5 % 63
		x.alloc(class, i*apart)
		if x.a.Owner(i) != class {
			t.Errorf("G2: page %d is owner %d's; want %d", i, x.a.Owner(i), class)
		}
	}
	x.same("a chunk of each class")
	for class, size := range sizes {
		for range 1024/size - 1 {
			x.alloc(class)
		}
		if chunk, e := x.s.Alloc(class); chunk != -1 || e != api.ErrFull {
			t.Errorf("G2: Alloc(%d) of a full one = %d, %v; want -1, ErrFull", class, chunk, e)
		}
	}
	x.same("all chunks of each class")
}

// A class that may not be is told ahead of memory that is full; neither changes anything.
func TestAllocOfNoClass(t *testing.T) {
	for _, sizes := range [][]int{{512}, {64, 512}, {64, 65, 66}} {
		x := made(t, 2, 512, sizes...)
		for range 3 {
			for _, class := range append(wrongNumbers(len(sizes)), 62, 63) {
				if chunk, e := x.s.Alloc(class); chunk != -1 || e != api.ErrArg {
					t.Errorf("G2: Alloc(%d) of %d classes = %d, %v; want -1, ErrArg", class, len(sizes), chunk, e)
				}
			}
			x.same("allocations of no class")
			x.alloc(len(sizes) - 1)
		}
	}
}

func TestAllocOfAllPages(t *testing.T) {
	const pages, per = 1024, 1024
	x := made(t, pages, 65536, 64, 65536)
	for p := range pages {
		for place := range per {
			if chunk, e := x.s.Alloc(0); chunk != p*apart+place || e != api.OK {
				t.Fatalf("G2: Alloc(0) = %d, %v; want %d", chunk, e, p*apart+place)
			}
		}
	}
	for class := range 2 {
		if chunk, e := x.s.Alloc(class); chunk != -1 || e != api.ErrFull {
			t.Errorf("G2: Alloc(%d) of a full one = %d, %v; want -1, ErrFull", class, chunk, e)
		}
	}
	if p, used, row := x.s.Counts(0); p != pages || used != pages*per || row != 0 {
		t.Errorf("G3: Counts(0) = %d, %d, %d", p, used, row)
	}
	const last = 1023*apart + 1023
	if page, at, size := x.s.Where(last); page != 1023 || at != 1023*64 || size != 64 || !x.s.Used(last) || x.s.Used(last+1) {
		t.Errorf("G3: Where(%d) = %d, %d, %d", last, page, at, size)
	}
	if l := x.s.Chunks(1023); !slices.Equal(l, upTo(1023, per)) {
		t.Errorf("G3: Chunks(1023) has %d chunks", len(l))
	}
	if e := x.s.Put(last, pattern(64, 1)); e != api.OK {
		t.Errorf("G5: Put(%d): %v", last, e)
	}
	if e := x.s.Close(1023); e != api.OK || x.s.Move(1023, 1) != api.ErrBusy {
		t.Errorf("G4: Close(1023): %v, and its Move is not refused", e)
	}
	for place := range per {
		x.s.Free(1023*apart + place)
	}
	if e := x.s.Move(1023, 1); e != api.OK {
		t.Errorf("G4: Move(1023, 1): %v", e)
	}
	if chunk, e := x.s.Alloc(1); chunk != 1023*apart || e != api.OK {
		t.Errorf("G2: Alloc(1) = %d, %v; want %d", chunk, e, 1023*apart)
	}
}

// The chunk that was freed last is used first, whichever page it is of.
func TestFreedChunksAreOnTop(t *testing.T) {
	x := made(t, 2, 512, 100, 200)
	x.alloc(0, 0, 1, 2, 3, 4, 4096, 4097, 4098)
	x.free(api.OK, 1, 4097, 0, 4, 4096)
	x.same("frees")
	x.alloc(0, 4096, 4, 0)
	x.free(api.OK, 2, 4)
	x.same("frees and allocations")
	x.alloc(0, 4, 2, 4097, 1, 4099, 4100)
	if chunk, e := x.s.Alloc(0); chunk != -1 || e != api.ErrFull {
		t.Errorf("G2: Alloc(0) of a full one = %d, %v", chunk, e)
	}
	x.same("all allocations")
}

// A page whose chunks are all free stays its class's.
func TestFreedPagesStay(t *testing.T) {
	x := made(t, 1, 512, 64, 512)
	x.alloc(0, 0)
	x.free(api.OK, 0)
	if chunk, e := x.s.Alloc(1); chunk != -1 || e != api.ErrFull || x.a.Owner(0) != 0 {
		t.Errorf("G2: Alloc(1) = %d, %v, with the only page of class 0", chunk, e)
	}
	x.same("a free")
}

// All orders in which four chunks are freed, and used again.
func TestFreeInEachOrder(t *testing.T) {
	for n := range 4 * 4 * 4 * 4 {
		order := []int{n & 3, n >> 2 & 3, n >> 4 & 3, n >> 6}
		if sorted := slices.Sorted(slices.Values(order)); !slices.Equal(sorted, []int{0, 1, 2, 3}) {
			continue
		}
		x := made(t, 1, 512, 128)
		x.alloc(0, 0, 1, 2, 3)
		for _, chunk := range order {
			x.free(api.OK, chunk)
			x.same("a free")
		}
		x.alloc(0, order[3], order[2], order[1], order[0])
	}
}

// Chunks that are no chunks, free ones, and such as lie behind a page's last one.
func TestFreeOfNoChunk(t *testing.T) {
	x := made(t, 4, 512, 100, 200)
	x.alloc(0, 0, 1, 2, 3, 4, 4096, 4097)
	x.alloc(1, 8192)
	x.free(api.OK, 3, 1)
	wrong := append(wrongChunks(4, 5), 1, 3, 5, 4098, 8193, 8194, 12288, 12289)
	for _, chunk := range wrong {
		x.free(api.ErrChunk, chunk)
		x.sameChunk("a free that is refused", chunk)
	}
	x.same("frees that are refused")
	x.close(api.OK, 0)
	x.free(api.OK, 0)
	for _, chunk := range append(wrong, 0) {
		x.free(api.ErrChunk, chunk)
	}
	x.same("frees that are refused")
	x.free(api.OK, 4096)
	x.free(api.ErrChunk, 4096)
	x.same("a chunk that is freed twice")
}

// What is no used chunk has no place, and no bytes.
func TestWhatIsNotUsed(t *testing.T) {
	x := made(t, 4, 512, 100, 200)
	x.alloc(0, 0, 1, 2, 3, 4, 4096, 4097)
	x.alloc(1, 8192)
	x.free(api.OK, 3, 1)
	for _, chunk := range append(wrongChunks(4, 5), 1, 3, 5, 4098, 8193, 8194, 12288, 12289) {
		if x.s.Used(chunk) {
			t.Errorf("G2: Used(%d)", chunk)
		}
		if page, at, size := x.s.Where(chunk); page != -1 || at != 0 || size != 0 {
			t.Errorf("G3: Where(%d) = %d, %d, %d; want -1, 0, 0", chunk, page, at, size)
		}
		for _, n := range []int{0, 1, 100, 101, -1, math.MinInt, math.MaxInt} {
			x.get(api.ErrChunk, chunk, n)
		}
		for _, b := range [][]byte{nil, {}, {1}, pattern(100, 1), pattern(101, 1), pattern(600, 1)} {
			x.put(api.ErrChunk, chunk, b)
		}
	}
	x.same("calls that are refused")
}

// Of all numbers of each page exactly those that Alloc told are used.
func TestUsedOfAllNumbers(t *testing.T) {
	x := made(t, 3, 65536, 64, 1000)
	for range 1024 {
		x.alloc(0)
	}
	for range 65 {
		x.alloc(1)
	}
	x.alloc(0)
	for n := -apart; n < 4*apart; n++ {
		want := n >= 0 && n < 1024 || n >= apart && n < apart+65 || n == 2*apart
		if x.s.Used(n) != want {
			t.Fatalf("G2: Used(%d) = %v", n, !want)
		}
		if page, at, size := x.s.Where(n); !want && (page != -1 || at != 0 || size != 0) {
			t.Fatalf("G3: Where(%d) = %d, %d, %d", n, page, at, size)
		}
	}
}

// Each place of each class lies behind the one before it, and the last one ahead of the page's end.
func TestWhereOfEachPlace(t *testing.T) {
	for _, page := range []int{1024, 1032, 65536} {
		sizes := most(page)
		x := made(t, 63, page, sizes...)
		for class, size := range sizes {
			for place := range page / size {
				chunk, e := x.s.Alloc(class)
				if want := class*apart + place; chunk != want || e != api.OK {
					t.Fatalf("G2: Alloc(%d) = %d, %v; want %d", class, chunk, e, want)
				}
				if p, at, n := x.s.Where(chunk); p != class || at != place*size || n != size || at+n > page {
					t.Fatalf("G3: Where(%d) = %d, %d, %d", chunk, p, at, n)
				}
			}
		}
	}
}

func TestCountsOfNoClass(t *testing.T) {
	for _, sizes := range [][]int{{64}, {64, 512}, {64, 100, 200}} {
		x := made(t, 3, 512, sizes...)
		for class := range sizes {
			x.alloc(class)
		}
		for _, class := range append(wrongNumbers(len(sizes)), 62, 63) {
			if pages, used, row := x.s.Counts(class); pages != 0 || used != 0 || row != 0 {
				t.Errorf("G3: Counts(%d) of %d classes = %d, %d, %d; want noughts", class, len(sizes), pages, used, row)
			}
		}
	}
}

// Pages count whether they are open or closed, and so do used chunks; free ones count in the row alone.
func TestCounts(t *testing.T) {
	x := made(t, 4, 512, 100, 200)
	holds := func(class, pages, used, row int) {
		t.Helper()
		if p, u, r := x.s.Counts(class); p != pages || u != used || r != row {
			t.Errorf("G3: Counts(%d) = %d, %d, %d; want %d, %d, %d", class, p, u, r, pages, used, row)
		}
	}
	x.alloc(0, 0, 1, 2, 3, 4, 4096, 4097)
	x.alloc(1, 8192)
	holds(0, 2, 7, 3)
	holds(1, 1, 1, 1)
	x.free(api.OK, 0, 4097)
	holds(0, 2, 5, 5)
	x.close(api.OK, 0)
	holds(0, 2, 5, 4)
	x.free(api.OK, 1)
	holds(0, 2, 4, 4)
	x.close(api.OK, 1)
	holds(0, 2, 4, 0)
	x.alloc(0, 12288)
	holds(0, 3, 5, 4)
	x.open(api.OK, 1)
	holds(0, 3, 5, 8)
	x.free(api.OK, 2, 3, 4)
	x.move(api.OK, 0, 1)
	holds(0, 2, 2, 8)
	holds(1, 2, 1, 3)
}

// Chunks rise, whatever order they were used in; those of closed pages are told, too.
func TestChunks(t *testing.T) {
	x := made(t, 3, 512, 64, 512)
	x.alloc(0, upTo(0, 8)...)
	x.alloc(0, 4096)
	x.free(api.OK, 0, 7, 3, 5, 1)
	x.alloc(0, 1, 5, 3)
	x.free(api.OK, 2)
	tells := func(page int, want ...int) {
		t.Helper()
		if l := x.s.Chunks(page); !slices.Equal(l, want) {
			t.Errorf("G3: Chunks(%d) = %v; want %v", page, l, want)
		}
	}
	tells(0, 1, 3, 4, 5, 6)
	tells(1, 4096)
	tells(2)
	x.close(api.OK, 0, 1)
	tells(0, 1, 3, 4, 5, 6)
	tells(1, 4096)
	x.free(api.OK, 1, 4096, 6)
	tells(0, 3, 4, 5)
	tells(1)
	x.open(api.OK, 0)
	tells(0, 3, 4, 5)
	for _, p := range wrongNumbers(3) {
		tells(p)
	}
	x.same("looks at chunks")
}

// A page is closed with all, some or none of its chunks used, each set of six: the others' order stays, and opening lays the lowest on top.
func TestCloseAndOpenOfEachSet(t *testing.T) {
	for set := range 1 << 6 {
		x := made(t, 3, 512, 85, 300)
		x.alloc(0, upTo(0, 6)...)
		x.alloc(0, upTo(1, 6)...)
		x.alloc(1, 8192)
		// The two pages' chunks are freed by turns, so that they stand mixed in the row.
		for _, place := range []int{4, 0, 5, 2, 3, 1} {
			if set>>place&1 == 1 {
				x.free(api.OK, apart+place)
			}
			x.free(api.OK, (place+2)%6)
		}
		x.close(api.OK, 1)
		x.same("closing")
		x.free(api.OK, x.m.chunks(1)...)
		x.same("frees in a closed page")
		x.alloc(0)
		x.open(api.OK, 1)
		x.same("opening")
		x.alloc(0, upTo(1, 6)...)
	}
}

func TestOpenLaysWhatIsFree(t *testing.T) {
	x := made(t, 2, 512, 100)
	x.alloc(0, 0, 1, 2, 3, 4, 4096)
	x.free(api.OK, 3, 0)
	x.close(api.OK, 0)
	x.free(api.OK, 4)
	x.open(api.OK, 0)
	x.alloc(0, 0, 3, 4, 4097)
	x.close(api.OK, 0)
	x.open(api.OK, 0)
	x.same("closing and opening of a page that is used whole")
	x.alloc(0, 4098)
}

// A page's first and last chunk, and those of the pages beside it, stay apart in the row.
func TestCloseOfThePagesBeside(t *testing.T) {
	for _, p := range []int{0, 1, 2} {
		x := made(t, 3, 65536, 64)
		for range 3 * 1024 {
			x.alloc(0)
		}
		for p := range 3 {
			x.free(api.OK, p*apart, p*apart+1023)
		}
		x.close(api.OK, p)
		x.sameRow("closing", 0)
		x.open(api.OK, p)
		x.sameRow("opening", 0)
		x.alloc(0, p*apart, p*apart+1023)
	}
}

// What a closed page has free is not told: another page is granted, or the class is full.
func TestClosedPagesAreNotTold(t *testing.T) {
	x := made(t, 2, 512, 100, 512)
	x.alloc(0, 0)
	x.close(api.OK, 0)
	x.alloc(0, 4096, 4097, 4098, 4099, 4100)
	if chunk, e := x.s.Alloc(0); chunk != -1 || e != api.ErrFull {
		t.Errorf("G4: Alloc(0) = %d, %v, with free chunks in a closed page alone", chunk, e)
	}
	x.free(api.OK, 0)
	if chunk, e := x.s.Alloc(0); chunk != -1 || e != api.ErrFull {
		t.Errorf("G4: Alloc(0) = %d, %v, behind a free in a closed page", chunk, e)
	}
	x.same("allocations that are refused")
	x.open(api.OK, 0)
	x.alloc(0, 0, 1, 2, 3, 4)
}

// A closed page's used chunks are used as ever.
func TestClosedPagesKeepTheirChunks(t *testing.T) {
	x := made(t, 2, 512, 100, 512)
	x.alloc(0, 0, 1, 2)
	x.close(api.OK, 0)
	for _, chunk := range []int{0, 1, 2} {
		x.put(api.OK, chunk, pattern(100, chunk))
		if page, at, size := x.s.Where(chunk); page != 0 || at != chunk*100 || size != 100 || !x.s.Used(chunk) {
			t.Errorf("G4: of a closed page: Where(%d) = %d, %d, %d", chunk, page, at, size)
		}
	}
	x.same("writes to a closed page")
	x.free(api.OK, 1)
	x.free(api.ErrChunk, 1)
	x.same("a free in a closed page")
}

func TestCloseThatMayNotBe(t *testing.T) {
	x := made(t, 3, 512, 100, 512)
	for _, p := range append(wrongNumbers(3), 0, 1, 2) {
		x.close(api.ErrPage, p)
	}
	x.alloc(0, 0)
	x.alloc(1, 4096)
	x.close(api.OK, 0)
	for _, p := range append(wrongNumbers(3), 0, 2) {
		x.close(api.ErrPage, p)
		x.same("closing that is refused")
	}
	x.close(api.OK, 1)
	x.close(api.ErrPage, 1)
	x.open(api.OK, 0)
	x.close(api.OK, 0)
	x.same("closing again")
}

func TestOpenThatMayNotBe(t *testing.T) {
	x := made(t, 3, 512, 100, 512)
	for _, p := range append(wrongNumbers(3), 0, 1, 2) {
		x.open(api.ErrPage, p)
	}
	x.alloc(0, 0)
	x.alloc(1, 4096)
	x.close(api.OK, 1)
	for _, p := range append(wrongNumbers(3), 0, 2) {
		x.open(api.ErrPage, p)
		x.same("opening that is refused")
	}
	x.open(api.OK, 1)
	x.open(api.ErrPage, 1)
	x.same("opening that is refused")
}

// A page that moves is the other class's, open, with its chunks on top of that class's row.
func TestMove(t *testing.T) {
	x := made(t, 4, 512, 64, 100, 200, 512)
	x.alloc(0, 0, 1)
	x.alloc(1, 4096, 4097)
	x.free(api.OK, 4096)
	x.alloc(2, 8192)
	x.free(api.OK, 0, 1)
	x.close(api.OK, 0)
	x.move(api.OK, 0, 1)
	x.same("a move")
	if x.a.Owner(0) != 1 {
		t.Errorf("G4: behind Move(0, 1) the page is owner %d's", x.a.Owner(0))
	}
	x.alloc(1, 0, 1, 2, 3, 4, 4096, 4098)
	if page, at, size := x.s.Where(4); page != 0 || at != 400 || size != 100 {
		t.Errorf("G4: behind Move(0, 1) Where(4) = %d, %d, %d", page, at, size)
	}
	x.alloc(0, 12288)
	x.free(api.OK, 8192)
	x.close(api.OK, 2)
	x.move(api.OK, 2, 0)
	x.alloc(0, upTo(2, 8)...)
	x.alloc(0, 12289)
	x.same("moves")
	if chunk, e := x.s.Alloc(2); chunk != -1 || e != api.ErrFull {
		t.Errorf("G4: Alloc(2) of a class whose page moved = %d, %v", chunk, e)
	}
}

// Between each two classes, there and back: a page is cut anew each time.
func TestMoveBetweenClasses(t *testing.T) {
	sizes := []int{64, 65, 100, 171, 256, 257, 511, 512}
	for from := range sizes {
		for to := range sizes {
			x := made(t, 1, 512, sizes...)
			x.alloc(from, upTo(0, 512/sizes[from])...)
			x.free(api.OK, upTo(0, 512/sizes[from])...)
			for _, class := range []int{to, from} {
				x.close(api.OK, 0)
				x.same("closing")
				x.move(api.OK, 0, class)
				x.same("a move")
				x.alloc(class, upTo(0, 512/sizes[class])...)
				if chunk, e := x.s.Alloc(class); chunk != -1 || e != api.ErrFull {
					t.Fatalf("G4: behind Move(0, %d): Alloc behind its last chunk = %d, %v", class, chunk, e)
				}
				for _, chunk := range upTo(0, 512/sizes[class]) {
					x.put(api.OK, chunk, pattern(sizes[class], chunk))
				}
				x.same("all allocations")
				x.free(api.OK, upTo(0, 512/sizes[class])...)
			}
		}
	}
}

// A move to the class that has the page opens it.
func TestMoveToTheSameClass(t *testing.T) {
	x := made(t, 2, 512, 100, 512)
	x.alloc(0, 0, 1, 2, 3, 4, 4096)
	x.free(api.OK, 4, 1, 0, 3, 2, 4096)
	x.close(api.OK, 0)
	x.move(api.OK, 0, 0)
	x.same("a move to the class that has the page")
	x.alloc(0, 0, 1, 2, 3, 4, 4096)
	x.open(api.ErrPage, 0)
	x.close(api.OK, 0)
}

// Of a page that is not closed, a class that may not be, and a used chunk, the first is told; nothing is changed.
func TestMoveThatMayNotBe(t *testing.T) {
	x := made(t, 4, 512, 100, 512)
	x.alloc(0, 0, 1, 2, 3, 4, 4096)
	x.alloc(1, 8192)
	classes := append(wrongNumbers(2), 62, 63)
	for _, p := range append(wrongNumbers(4), 0, 1, 2, 3) {
		for _, class := range append(classes, 0, 1) {
			x.move(api.ErrPage, p, class)
		}
	}
	x.same("moves of pages that are not closed")
	x.close(api.OK, 0, 1)
	for _, class := range classes {
		x.move(api.ErrArg, 0, class)
	}
	x.same("moves to no class")
	for _, chunk := range []int{2, 0, 4, 1, 3} {
		for class := range 2 {
			x.move(api.ErrBusy, 0, class)
		}
		x.same("moves of a page with a used chunk")
		x.free(api.OK, chunk)
	}
	for _, class := range classes {
		x.move(api.ErrArg, 0, class)
	}
	x.same("moves to no class")
	for class := range 2 {
		x.move(api.ErrBusy, 1, class)
	}
	x.move(api.OK, 0, 1)
	x.move(api.ErrPage, 0, 0)
	x.same("moves")
}

// The lowest and the highest chunk alone keep a page from moving, too.
func TestMoveOfAPageWithOneChunk(t *testing.T) {
	for _, left := range []int{0, 511, 1023} {
		x := made(t, 1, 65536, 64, 65536)
		x.alloc(0, upTo(0, 1024)...)
		for chunk := range 1024 {
			if chunk != left {
				x.free(api.OK, chunk)
			}
		}
		x.close(api.OK, 0)
		x.move(api.ErrBusy, 0, 1)
		x.free(api.OK, left)
		x.move(api.OK, 0, 1)
		x.alloc(1, 0)
	}
}

// As many bytes as there may be, at each chunk of a page, its ends among them: what stands behind them stays.
func TestPutAndGetOfEachLength(t *testing.T) {
	for _, c := range []struct{ page, size int }{{512, 64}, {512, 65}, {512, 171}, {520, 260}, {512, 512}, {512, 511}} {
		x := made(t, 2, c.page, c.size)
		for range 2 * (c.page / c.size) {
			x.alloc(0)
		}
		for p := range 2 {
			for _, chunk := range x.s.Chunks(p) {
				x.put(api.OK, chunk, bytes.Repeat([]byte{byte(chunk) + 200}, c.size))
				for n := c.size; n >= 0; n-- {
					if n > 2 && n < c.size-2 && n%7 != 0 {
						continue
					}
					x.put(api.OK, chunk, pattern(n, chunk+n))
					x.get(api.OK, chunk, n)
					x.get(api.OK, chunk, c.size)
				}
			}
			x.sameBytes("writes")
		}
		for n := range c.size + 1 {
			x.get(api.OK, 0, n)
		}
	}
}

func TestPutAndGetThatMayNotBe(t *testing.T) {
	for _, c := range []struct{ page, size int }{{512, 64}, {512, 200}, {512, 512}, {65536, 65536}, {65536, 65535}} {
		x := made(t, 2, c.page, c.size)
		for range 2 * (c.page / c.size) {
			x.alloc(0)
		}
		for p := range 2 {
			for _, chunk := range x.s.Chunks(p) {
				x.put(api.OK, chunk, pattern(c.size, chunk))
				for _, n := range []int{c.size + 1, c.size + 2, 2 * c.size, 1 << 17} {
					x.put(api.ErrLarge, chunk, bytes.Repeat([]byte{255}, n))
					x.get(api.ErrArg, chunk, n)
				}
				for _, n := range []int{-1, -2, -c.size, math.MinInt, math.MinInt + 1, math.MinInt32, 1 << 32, 1<<32 + 1, math.MaxInt} {
					x.get(api.ErrArg, chunk, n)
				}
			}
		}
		x.same("calls that are refused")
	}
}

// No bytes at all change nothing, and are told as none.
func TestPutAndGetOfNoBytes(t *testing.T) {
	x := made(t, 2, 512, 64, 512)
	x.alloc(0, upTo(0, 8)...)
	x.alloc(1, 4096)
	for _, chunk := range append(upTo(0, 8), 4096) {
		x.put(api.OK, chunk, pattern(64, chunk))
		x.put(api.OK, chunk, nil)
		x.put(api.OK, chunk, []byte{})
		x.get(api.OK, chunk, 0)
	}
	x.same("writes of no bytes")
}

// Used chunks keep their bytes, whatever is done to others.
func TestChunksLieApart(t *testing.T) {
	x := made(t, 4, 520, 64, 65, 260)
	for class, n := range []int{8, 8, 4} {
		for range n {
			x.alloc(class)
		}
	}
	seed := 0
	for p := range 4 {
		for _, chunk := range x.s.Chunks(p) {
			_, _, size := x.s.Where(chunk)
			x.put(api.OK, chunk, pattern(size, seed))
			seed++
			x.sameBytes("a write")
		}
	}
	x.free(api.OK, 0, 2, 7, apart+1, apart+7)
	x.sameBytes("frees")
	x.alloc(0, 7)
	x.put(api.OK, 7, pattern(64, seed))
	x.alloc(1, apart+7)
	x.put(api.OK, apart+7, pattern(65, seed+1))
	x.sameBytes("frees and allocations")
	x.free(api.OK, 2*apart, 2*apart+1)
	x.close(api.OK, 2, 1)
	x.sameBytes("closing")
	x.move(api.OK, 2, 0)
	x.open(api.OK, 1)
	x.sameBytes("a move and opening")
	for chunk := range 8 {
		x.alloc(0, 2*apart+chunk)
		x.put(api.OK, 2*apart+chunk, pattern(64, seed+chunk))
	}
	x.same("writes to a page that moved")
}

// R1: sizes are not kept, and stay as they were.
func TestSizesAreNotKept(t *testing.T) {
	a, _ := arena.New(3, 512)
	all := []int{64, 100, 512, 7}
	s, e := slab.New(a, all[:3])
	if e != api.OK || !slices.Equal(all, []int{64, 100, 512, 7}) {
		t.Fatalf("G1: New: %v, and the sizes are %v", e, all)
	}
	for i := range all {
		all[i] = 256
	}
	x := &pair{t, s, a, newPlain(3, 512, []int{64, 100, 512})}
	x.alloc(0, 0)
	x.alloc(1, 4096)
	x.alloc(2, 8192)
	x.same("writing over the sizes")
	if !slices.Equal(all, []int{256, 256, 256, 256}) {
		t.Errorf("R1: calls changed what New was handed: %v", all)
	}
}

// R1: what is put is not kept, and stays as it was; what is got is the caller's.
func TestBytesAreTheCallers(t *testing.T) {
	x := made(t, 2, 512, 64, 512)
	x.alloc(0, upTo(0, 8)...)
	all := pattern(512, 1)
	x.put(api.OK, 1, all[:64])
	x.put(api.OK, 7, all[:10])
	if !bytes.Equal(all, pattern(512, 1)) {
		t.Error("R1: Put changed what it was handed")
	}
	clear(all)
	x.same("writing over what was put")
	for _, c := range []struct{ chunk, n int }{{1, 64}, {7, 64}, {7, 0}, {0, 64}, {1, 10}} {
		b, _ := x.s.Get(c.chunk, c.n)
		other, _ := x.s.Get(c.chunk, c.n)
		was := bytes.Clone(other)
		for i := range b[:cap(b)] {
			b[:cap(b)][i] = 255
		}
		_ = append(b, 1, 2, 3)
		if !bytes.Equal(other, was) {
			t.Errorf("R1: two answers of Get(%d, %d) share their bytes", c.chunk, c.n)
		}
		x.same("writing over what was got")
	}
	b, _ := x.s.Get(1, 64)
	x.put(api.OK, 1, make([]byte, 64))
	if !bytes.Equal(b, pattern(64, 1)) {
		t.Error("R1: Put changed what was got ahead of it")
	}
}

// R1: a list of chunks is the caller's.
func TestChunksAreTheCallers(t *testing.T) {
	x := made(t, 2, 512, 100)
	x.alloc(0, 0, 1, 2, 3)
	l, other := x.s.Chunks(0), x.s.Chunks(0)
	for i := range l {
		l[i] = 77
	}
	_ = append(l[:0], 9, 9, 9, 9, 9)
	if !slices.Equal(other, upTo(0, 4)) {
		t.Errorf("R1: two answers of Chunks(0) share their numbers: %v", other)
	}
	x.same("writing over a list of chunks")
	x.free(api.OK, 1)
	if !slices.Equal(other, upTo(0, 4)) {
		t.Errorf("R1: a free changed what was told ahead of it: %v", other)
	}
}

// dice are numbers that look like chance, and are the same ones each time.
type dice uint64

func (d *dice) below(n int) int {
	*d = *d*6364136223846793005 + 1442695040888963407
	return int(uint64(*d) >> 33 % uint64(n))
}

// pick is one of the wrong numbers at times, else one below n.
func (d *dice) pick(n int, wrong []int) int {
	if d.below(12) == 0 {
		return wrong[d.below(len(wrong))]
	}
	return d.below(n)
}

// chunk is a used one mostly, if there is one.
func (d *dice) chunk(m *plain) int {
	p := d.below(len(m.pages))
	if l := m.chunks(p); len(l) > 0 && d.below(10) > 0 {
		return l[d.below(len(l))]
	}
	if d.below(3) == 0 {
		l := wrongChunks(len(m.pages), 8)
		return l[d.below(len(l))]
	}
	return p*apart + d.below(12)
}

// act does one call, whatever the dice say.
func (x *pair) act(d *dice) {
	x.t.Helper()
	class, p := d.pick(len(x.m.sizes), wrongNumbers(len(x.m.sizes))), d.pick(len(x.m.pages), wrongNumbers(len(x.m.pages)))
	chunk := d.chunk(x.m)
	n := d.pick(90, []int{-1, 0, 64, 65, 100, x.m.page, x.m.page + 1, math.MinInt, math.MaxInt})
	switch d.below(16) {
	case 0, 1, 2, 3, 4:
		x.alloc(class)
	case 5, 6, 7, 8:
		x.free(said, chunk)
	case 9:
		x.close(said, p)
	case 10:
		x.open(said, p)
	case 11, 12:
		x.move(said, p, class)
	case 13, 14:
		x.put(said, chunk, pattern(max(0, min(n, 70000)), d.below(1000)))
	case 15:
		x.get(said, chunk, n)
	}
}

// Several slabs by turns: none has anything to do with another one, and the same calls have the same answers.
func TestByTurns(t *testing.T) {
	shapes := []struct {
		pages, page int
		sizes       []int
	}{{1, 512, []int{64}}, {2, 512, []int{64, 512}}, {2, 512, []int{64, 512}}, {4, 520, []int{64, 100, 260}}, {5, 1000, []int{72, 150, 333, 999}}, {9, 512, []int{170, 171, 256, 257, 511, 512}}}
	for seed := range 30 {
		d := dice(seed)
		var l []*pair
		for _, s := range shapes {
			l = append(l, made(t, s.pages, s.page, s.sizes...))
		}
		for step := range 3000 {
			l[d.below(len(l))].act(&d)
			if step%30 == 0 {
				for _, x := range l {
					x.same("calls by turns")
				}
			}
		}
	}
}

// R2: no call panics, even if somebody takes the arena's pages away or gives them to others, of which nothing else is promised.
func TestPagesThatAreTakenAway(t *testing.T) {
	for seed := range 50 {
		d := dice(seed)
		x := made(t, 4, 512, 64, 200, 512)
		for range 2000 {
			class, p, chunk := d.pick(3, wrongNumbers(3)), d.pick(4, wrongNumbers(4)), d.below(4)*apart+d.below(9)
			switch d.below(14) {
			case 0:
				x.a.Return(p)
			case 1:
				x.a.Pass(p, d.below(63))
			case 2:
				x.a.Grant(d.below(63))
			case 3:
				x.s.Close(p)
			case 4:
				x.s.Open(p)
			case 5:
				x.s.Move(p, class)
			case 6, 7:
				x.s.Free(chunk)
			case 8:
				x.s.Put(chunk, pattern(64, 1))
				x.s.Get(chunk, 64)
			case 9:
				x.s.Where(chunk)
				x.s.Counts(class)
				x.s.Chunks(p)
			default:
				x.s.Alloc(class)
			}
		}
	}
}
