package sizes_test

import (
	"math"
	"slices"
	"testing"

	"ambry/api"
	"ambry/sizes"
)

// some are numbers far from all pages, factors, classes and sizes, and close to them.
func some() []int {
	l := []int{math.MinInt, math.MinInt + 1, math.MinInt + 8, math.MinInt32, -65536, math.MaxInt32, math.MaxInt - 7, math.MaxInt - 1, math.MaxInt}
	for n := -600; n <= 600; n++ {
		l = append(l, n)
	}
	return l
}

// made are the sizes that New makes of these, which it takes.
func made(t *testing.T, page, factor int) []int {
	t.Helper()
	l, e := sizes.New(page, factor)
	if e != api.OK {
		t.Fatalf("E1: New(%d, %d): %v", page, factor, e)
	}
	return l
}

// eachRow goes through rows of all kinds: all factors of some pages, all pages of some factors.
func eachRow(t *testing.T, check func(t *testing.T, page, factor int, l []int)) {
	t.Helper()
	for _, page := range []int{512, 520, 1000, 1024, 4096, 4624, 65528, 65536} {
		for factor := 105; factor <= 400; factor++ {
			check(t, page, factor, made(t, page, factor))
		}
	}
	for page := 512; page <= 65536; page += 8 {
		for _, factor := range []int{105, 106, 110, 125, 150, 199, 200, 201, 399, 400} {
			check(t, page, factor, made(t, page, factor))
		}
	}
}

// row is a page, a factor and the sizes that are made of them.
type row struct {
	page, factor int
	sizes        []int
}

// rows are told by the chapter, or were worked out apart from the program.
func rows() []row {
	return []row{
		{512, 200, []int{64, 128, 256, 512}},
		{1024, 125, []int{64, 80, 104, 136, 176, 224, 280, 352, 440, 1024}},
		{512, 400, []int{64, 256, 512}},
		{512, 105, []int{64, 72, 80, 88, 96, 104, 112, 120, 128, 136, 144, 152, 160, 168, 176, 184, 200, 216, 232, 248, 512}},
		{512, 112, []int{64, 72, 80, 96, 112, 128, 144, 168, 192, 216, 248, 512}},
		{512, 113, []int{64, 72, 88, 104, 120, 136, 160, 184, 208, 240, 512}},
		{512, 250, []int{64, 160, 512}},
		{520, 200, []int{64, 128, 256, 520}},
		{1000, 150, []int{64, 96, 144, 216, 328, 496, 1000}},
		{1024, 200, []int{64, 128, 256, 512, 1024}},
		{1016, 200, []int{64, 128, 256, 1016}},
		{1024, 399, []int{64, 256, 1024}},
		{8192, 133, []int{64, 88, 120, 160, 216, 288, 384, 512, 680, 904, 1208, 1608, 2144, 2856, 3800, 8192}},
		{65528, 200, []int{64, 128, 256, 512, 1024, 2048, 4096, 8192, 16384, 65528}},
		{65536, 200, []int{64, 128, 256, 512, 1024, 2048, 4096, 8192, 16384, 32768, 65536}},
		{65536, 400, []int{64, 256, 1024, 4096, 16384, 65536}},
		{65536, 105, []int{
			64, 72, 80, 88, 96, 104, 112, 120, 128, 136, 144, 152, 160, 168, 176, 184, 200, 216, 232, 248, 264, 280, 296, 312, 328, 344, 368,
			392, 416, 440, 464, 488, 512, 544, 576, 608, 640, 672, 712, 752, 792, 832, 880, 928, 976, 1024, 1080, 1136, 1192, 1256, 1320, 1392,
			1464, 1544, 1624, 1712, 1800, 1896, 1992, 2096, 2200, 2312, 65536,
		}},
	}
}

func TestNew(t *testing.T) {
	for _, c := range rows() {
		if l, e := sizes.New(c.page, c.factor); e != api.OK || !slices.Equal(l, c.sizes) {
			t.Errorf("E1: New(%d, %d) = %v, %v; want %v", c.page, c.factor, l, e, c.sizes)
		}
	}
}

// follows tells whether next is the size that E1 puts behind size: the least one that may be.
func follows(size, next, factor int) bool {
	enough := func(n int) bool { return 100*n > size*factor-100 && n >= size+8 }
	return next%8 == 0 && enough(next) && !enough(next-8)
}

func TestNewStepByStep(t *testing.T) {
	eachRow(t, func(t *testing.T, page, factor int, l []int) {
		n := len(l) - 1
		if n < 1 || n > 62 || l[0] != 64 || l[n] != page || 2*l[n-1] > page {
			t.Fatalf("E1: New(%d, %d) = %v", page, factor, l)
		}
		for i := 1; i < n; i++ {
			if !follows(l[i-1], l[i], factor) {
				t.Fatalf("E1: New(%d, %d): %d is told behind %d", page, factor, l[i], l[i-1])
			}
		}
		more := l[n-1] + 8
		for !follows(l[n-1], more, factor) {
			more += 8
		}
		if n < 62 && 2*more <= page {
			t.Fatalf("E1: New(%d, %d) = %v: %d is left out", page, factor, l, more)
		}
	})
}

// A size of half a page belongs to the row; a page that is 8 bytes smaller has it no more.
func TestNewHalfAPage(t *testing.T) {
	for factor := 105; factor <= 400; factor++ {
		for _, size := range made(t, 65536, factor) {
			if size < 256+8 || size > 32768 {
				continue
			}
			if l := made(t, 2*size, factor); l[len(l)-2] != size {
				t.Errorf("E1: New(%d, %d) = %v: half a page is left out", 2*size, factor, l)
			}
			if l := made(t, 2*size-8, factor); slices.Contains(l, size) {
				t.Errorf("E1: New(%d, %d) = %v: %d is more than half a page", 2*size-8, factor, l, size)
			}
		}
	}
}

// The row has at most 62 sizes and the page: a page that could have one more ends it where a smaller one does.
func TestNewAsManyAsMayBe(t *testing.T) {
	for _, c := range []struct{ page, factor, n, last int }{
		{4616, 105, 62, 2200}, {4624, 105, 63, 2312}, {4856, 105, 63, 2312}, {4864, 105, 63, 2312}, {65536, 105, 63, 2312},
		{7480, 106, 62, 3528}, {7488, 106, 63, 3744}, {7936, 106, 63, 3744}, {20248, 108, 62, 9376}, {20256, 108, 63, 10128},
		{21888, 108, 63, 10128}, {58728, 110, 62, 26696}, {58736, 110, 63, 29368}, {64600, 110, 63, 29368}, {64608, 110, 63, 29368},
		{65536, 110, 63, 29368}, {65536, 111, 58, 29992},
	} {
		l := made(t, c.page, c.factor)
		if n := len(l); n != c.n || l[n-2] != c.last || l[n-1] != c.page {
			t.Errorf("E1: New(%d, %d) = %v; want %d sizes, the last ones %d, %d", c.page, c.factor, l, c.n, c.last, c.page)
		}
	}
	eachRow(t, func(t *testing.T, page, factor int, l []int) {
		if len(l) > api.MaxClasses {
			t.Fatalf("E1: New(%d, %d) = %d sizes", page, factor, len(l))
		}
	})
}

// refuses holds New against ErrArg and nothing.
func refuses(t *testing.T, page, factor int) {
	t.Helper()
	if l, e := sizes.New(page, factor); len(l) != 0 || e != api.ErrArg {
		t.Errorf("E1: New(%d, %d) = %v, %v; want nothing, ErrArg", page, factor, l, e)
	}
}

func TestNewRefusesPages(t *testing.T) {
	wrong := []int{513, 516, 519, 521, 1001, 1028, 65528 - 1, 65528 + 4, 65535, 65537, 65540, 65544, 66048, 131072, 1 << 30}
	for _, n := range some() {
		if n < 512 || n > 65536 || n%8 != 0 {
			wrong = append(wrong, n)
		}
	}
	for _, page := range wrong {
		for _, factor := range []int{105, 125, 200, 400} {
			refuses(t, page, factor)
		}
	}
}

func TestNewTakesEachPage(t *testing.T) {
	for page := range 70000 {
		l, e := sizes.New(page, 300)
		if want := page >= 512 && page <= 65536 && page%8 == 0; (e == api.OK) != want || (len(l) > 0) != want {
			t.Errorf("E1: New(%d, 300) = %v, %v", page, l, e)
		}
	}
}

func TestNewRefusesFactors(t *testing.T) {
	for _, factor := range some() {
		for _, page := range []int{512, 1024, 65536} {
			if factor < 105 || factor > 400 {
				refuses(t, page, factor)
			} else if l, e := sizes.New(page, factor); e != api.OK || len(l) == 0 {
				t.Errorf("E1: New(%d, %d) = %v, %v", page, factor, l, e)
			}
		}
	}
	for _, page := range some() {
		refuses(t, page, 104)
		refuses(t, page, 401)
	}
}

// R1, R3: what New told is the caller's.
func TestNewIsTheCallers(t *testing.T) {
	for _, c := range rows() {
		first, second := made(t, c.page, c.factor), made(t, c.page, c.factor)
		for i := range first {
			first[i] = -7
		}
		_ = append(first, -7, -7)
		if !slices.Equal(second, c.sizes) || !slices.Equal(made(t, c.page, c.factor), c.sizes) {
			t.Errorf("R1: New(%d, %d) = %v, behind writing over another answer", c.page, c.factor, second)
		}
	}
}

func TestClass(t *testing.T) {
	first, second := []int{64, 128, 256, 512}, []int{64, 80, 104, 136, 176, 224, 280, 352, 440, 1024}
	for _, c := range []struct {
		sizes   []int
		n, want int
	}{
		{first, 65, 1}, {first, 513, -1}, {first, -5, 0}, {first, 0, 0}, {first, 1, 0}, {first, 63, 0}, {first, 64, 0}, {first, 100, 1},
		{first, 127, 1}, {first, 128, 1}, {first, 129, 2}, {first, 256, 2}, {first, 257, 3}, {first, 511, 3}, {first, 512, 3},
		{first, math.MaxInt, -1}, {first, math.MinInt, 0},
		{second, 40, 0}, {second, 64, 0}, {second, 65, 1}, {second, 80, 1}, {second, 81, 2}, {second, 136, 3}, {second, 137, 4},
		{second, 225, 6}, {second, 440, 8}, {second, 441, 9}, {second, 1024, 9}, {second, 1025, -1}, {second, 65536, -1},
	} {
		if class := sizes.Class(c.sizes, c.n); class != c.want {
			t.Errorf("E2: Class(%v, %d) = %d; want %d", c.sizes, c.n, class, c.want)
		}
	}
}

// Of each row, each number belongs to the class whose size is the first one from it on.
func TestClassOfEachNumber(t *testing.T) {
	for _, c := range rows() {
		n := -3
		for class, size := range c.sizes {
			for ; n <= size; n++ {
				if got := sizes.Class(c.sizes, n); got != class {
					t.Errorf("E2: Class(%v, %d) = %d; want %d", c.sizes, n, got, class)
				}
			}
		}
		for ; n < c.page+300; n++ {
			if got := sizes.Class(c.sizes, n); got != -1 {
				t.Errorf("E2: Class(%v, %d) = %d; want -1", c.sizes, n, got)
			}
		}
	}
}

// A size is of its own class; one byte more is of the next one, or of none.
func TestClassOfEachSize(t *testing.T) {
	eachRow(t, func(t *testing.T, page, factor int, l []int) {
		for class, size := range l {
			above := class + 1
			if above == len(l) {
				above = -1
			}
			if a, b := sizes.Class(l, size), sizes.Class(l, size+1); a != class || b != above {
				t.Fatalf("E2: of New(%d, %d): Class for %d: %d, for one more: %d; want %d, %d", page, factor, size, a, b, class, above)
			}
		}
	})
}

// Of sizes that New did not make it is the least class all the same, in whatever order they stand.
func TestClassOfOtherSizes(t *testing.T) {
	fall := []int{512, 256, 128, 64}
	odd := []int{70, 10, 70, 300, 200, -5, 0, 301}
	for _, c := range []struct {
		sizes   []int
		n, want int
	}{
		{nil, 0, -1}, {nil, 64, -1}, {nil, -5, -1}, {nil, math.MinInt, -1}, {[]int{}, 1, -1}, {[]int{}, 0, -1},
		{[]int{64}, 64, 0}, {[]int{64}, 65, -1}, {[]int{0}, 0, 0}, {[]int{0}, 1, -1}, {[]int{0}, -1, 0}, {[]int{-8}, -8, 0}, {[]int{-8}, 0, -1},
		{fall, 1, 0}, {fall, 64, 0}, {fall, 100, 0}, {fall, 512, 0}, {fall, 513, -1},
		{odd, 5, 0}, {odd, 70, 0}, {odd, 71, 3}, {odd, 200, 3}, {odd, 300, 3}, {odd, 301, 7}, {odd, 302, -1}, {odd, -5, 0},
		{[]int{-10, -5, 3}, -7, 1}, {[]int{-10, -5, 3}, 0, 2}, {[]int{64, 64, 64}, 64, 0}, {[]int{1, 64, 64}, 64, 1},
		{[]int{math.MinInt, math.MaxInt}, math.MaxInt, 1}, {[]int{math.MinInt, math.MaxInt}, math.MinInt, 0},
		{[]int{math.MinInt, math.MaxInt}, math.MinInt + 1, 1}, {make([]int, 1000), 1, -1}, {append(make([]int, 1000), 1), 1, 1000},
	} {
		if class := sizes.Class(c.sizes, c.n); class != c.want {
			t.Errorf("E2: Class of %d sizes, for %d = %d; want %d", len(c.sizes), c.n, class, c.want)
		}
	}
}

func TestPer(t *testing.T) {
	first, second := []int{64, 128, 256, 512}, []int{64, 80, 104, 136, 176, 224, 280, 352, 440, 1024}
	for _, c := range []struct {
		sizes             []int
		class, page, want int
	}{
		{first, 0, 512, 8}, {first, 1, 512, 4}, {first, 2, 512, 2}, {first, 3, 512, 1},
		{second, 0, 1024, 16}, {second, 1, 1024, 12}, {second, 2, 1024, 9}, {second, 3, 1024, 7}, {second, 4, 1024, 5}, {second, 5, 1024, 4},
		{second, 6, 1024, 3}, {second, 7, 1024, 2}, {second, 8, 1024, 2}, {second, 9, 1024, 1},
		{first, 0, 1, 0}, {first, 0, 63, 0}, {first, 0, 64, 1}, {first, 0, 65, 1}, {first, 0, 127, 1}, {first, 0, 128, 2}, {first, 3, 511, 0},
		{first, 0, 65536, 1024}, {first, 3, 65536, 128}, {first, 0, math.MaxInt, math.MaxInt / 64}, {second, 9, 1023, 0}, {second, 1, 79, 0},
	} {
		if n := sizes.Per(c.sizes, c.class, c.page); n != c.want {
			t.Errorf("E2: Per(%v, %d, %d) = %d; want %d", c.sizes, c.class, c.page, n, c.want)
		}
	}
}

// So many chunks go into the page, and not one more.
func TestPerOfEachClass(t *testing.T) {
	eachRow(t, func(t *testing.T, page, factor int, l []int) {
		for class, size := range l {
			if n := sizes.Per(l, class, page); n < 1 || n*size > page || (n+1)*size <= page {
				t.Fatalf("E2: of New(%d, %d): Per of class %d (%d bytes) = %d", page, factor, class, size, n)
			}
		}
	})
}

func TestPerOfNoClass(t *testing.T) {
	for _, l := range [][]int{{64, 128, 256, 512}, {1}, {512}, nil, {}} {
		for _, class := range some() {
			if class >= 0 && class < len(l) {
				continue
			}
			for _, page := range []int{512, 1, math.MaxInt, 0, -1} {
				if n := sizes.Per(l, class, page); n != 0 {
					t.Errorf("E2: Per(%v, %d, %d) = %d; want 0", l, class, page, n)
				}
			}
		}
	}
}

func TestPerOfSizesAndPagesBelow1(t *testing.T) {
	below := []int{0, -1, -2, -8, -64, -512, math.MinInt32, math.MinInt + 1, math.MinInt}
	for _, n := range below {
		for _, page := range []int{1, 8, 512, 65536, math.MaxInt} {
			if got := sizes.Per([]int{64, n, 512}, 1, page); got != 0 {
				t.Errorf("E2: Per of size %d, page %d = %d; want 0", n, page, got)
			}
		}
		for _, size := range []int{1, 64, 512, math.MaxInt} {
			if got := sizes.Per([]int{size}, 0, n); got != 0 {
				t.Errorf("E2: Per of size %d, page %d = %d; want 0", size, n, got)
			}
		}
		for _, m := range below {
			if got := sizes.Per([]int{n}, 0, m); got != 0 {
				t.Errorf("E2: Per of size %d, page %d = %d; want 0", n, m, got)
			}
		}
	}
}

func TestPerOfOtherSizes(t *testing.T) {
	odd := []int{512, 7, -5, 1, 0, math.MaxInt}
	for _, c := range []struct{ class, page, want int }{
		{0, 512, 1}, {0, 1025, 2}, {1, 512, 73}, {1, 7, 1}, {1, 6, 0}, {2, 512, 0}, {3, 512, 512}, {3, 1, 1}, {3, math.MaxInt, math.MaxInt},
		{4, 512, 0}, {5, 512, 0}, {5, math.MaxInt, 1}, {5, math.MaxInt - 1, 0},
	} {
		if n := sizes.Per(odd, c.class, c.page); n != c.want {
			t.Errorf("E2: Per(%v, %d, %d) = %d; want %d", odd, c.class, c.page, n, c.want)
		}
	}
}

// R1: Class and Per leave the sizes, and what stands behind them, as they were; and they keep nothing of them.
func TestSizesStay(t *testing.T) {
	for _, whole := range [][]int{{64, 128, 256, 512, 1024, 2048}, {512, 64, -5, 0, 7, 256}} {
		before := slices.Clone(whole)
		l := whole[:4]
		for _, n := range some() {
			sizes.Class(l, n)
			sizes.Per(l, n, 512)
			sizes.Per(l, 0, n)
		}
		if !slices.Equal(whole, before) {
			t.Errorf("R1: the sizes %v were left as %v", before, whole)
		}
	}
	l := []int{64, 128}
	if class, n := sizes.Class(l, 100), sizes.Per(l, 1, 512); class != 1 || n != 4 {
		t.Errorf("E2: of %v: class %d, %d chunks", l, class, n)
	}
	l[0], l[1] = 100, 256
	if class, n := sizes.Class(l, 100), sizes.Per(l, 1, 512); class != 0 || n != 2 {
		t.Errorf("R1: of %v, behind writing over them: class %d, %d chunks", l, class, n)
	}
}

// What follows: sizes rise and are multiples of 8, and a class's chunk is no larger than the sizes ask for.
func TestSizesRise(t *testing.T) {
	eachRow(t, func(t *testing.T, page, factor int, l []int) {
		for class, size := range l {
			if size%8 != 0 || size < api.MinChunk || size > page || class > 0 && size <= l[class-1] {
				t.Fatalf("E1: New(%d, %d) = %v", page, factor, l)
			}
			if class > 0 && sizes.Class(l, l[class-1]+1) != class {
				t.Fatalf("E2: of New(%d, %d): what class %d does not hold is not held by the next one", page, factor, class-1)
			}
		}
	})
}

// R4: the same call has the same answer.
func TestAgain(t *testing.T) {
	eachRow(t, func(t *testing.T, page, factor int, l []int) {
		if again := made(t, page, factor); !slices.Equal(again, l) {
			t.Fatalf("R4: New(%d, %d) = %v, then %v", page, factor, l, again)
		}
	})
}
