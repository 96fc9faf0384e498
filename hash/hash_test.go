package hash_test

import (
	"fmt"
	"hash/fnv"
	"math"
	"math/big"
	"strconv"
	"strings"
	"testing"

	"ambry/hash"
)

const largest = math.MaxUint64

// allBytes are the bytes of every value, in order, as often as wanted.
func allBytes(times int) string {
	var b []byte
	for i := range 256 * times {
		b = append(b, byte(i))
	}
	return string(b)
}

// texts are of several lengths, with bytes of every value.
func texts() []string {
	l := []string{
		"", "a", "foobar", "key:1", "key:2", "a b", "\r\n", "\x00", "\x00\x00", "\xff", "\xff\xff", "\x80\x7f", "caf\u00e9", "\u20ac", "\xe9", "\xc3",
		strings.Repeat("k", 250), strings.Repeat("\x00", 1000), strings.Repeat("\xff", 2048), allBytes(9),
	}
	all := allBytes(1)
	for n := range len(all) + 1 {
		l = append(l, all[:n], all[len(all)-n:])
	}
	return l
}

// numbers have high bits, low bits, each bit alone, all bits but one, and bits without a plain order.
func numbers() []uint64 {
	l := []uint64{
		0, 1, 13, 1<<30 - 1, 1 << 30, 1<<31 - 1, 1 << 31, 1<<32 - 1, 1 << 32, 5 << 32, 1<<63 - 1, 1 << 63, largest - 1, largest,
		0x0123456789abcdef, 0xfedcba9876543210, 0xffffffff00000000, 0xaaaaaaaaaaaaaaaa, 0x5555555555555555,
	}
	for i := range 64 {
		l = append(l, 1<<i, largest^1<<i, 1<<i-1)
	}
	x := uint64(1)
	for range 500 {
		x = x*6364136223846793005 + 1442695040888963407
		l = append(l, x)
	}
	return l
}

// goesOn is what D1 makes of h, byte by byte of s, in numbers without an end.
func goesOn(h uint64, s string) uint64 {
	n := new(big.Int).SetUint64(h)
	for i := range len(s) {
		low := new(big.Int).And(n, big.NewInt(255)).Int64()
		n.Add(n, big.NewInt(low^int64(s[i])-low))
		n.Mul(n, big.NewInt(1099511628211))
		n.Mod(n, new(big.Int).Lsh(big.NewInt(1), 64))
	}
	return n.Uint64()
}

func TestOf(t *testing.T) {
	// The first ones are told by the chapter, the others by those who published FNV-1a.
	for s, want := range map[string]uint64{
		"": 14695981039346656037, "a": 12638187200555641996, "foobar": 9625390261332436968,
		"b": 0xaf63df4c8601f1a5, "c": 0xaf63de4c8601eff2, "d": 0xaf63d94c8601e773, "e": 0xaf63d84c8601e5c0, "f": 0xaf63db4c8601ead9,
		"fo": 0x08985907b541d342, "foo": 0xdcb27518fed9d577, "foob": 0xdd120e790c2512af, "fooba": 0xcac165afa2fef40a,
	} {
		if h := hash.Of(s); h != want {
			t.Errorf("D1: Of(%q) = %d; want %d", s, h, want)
		}
	}
}

func TestOfIsFNV(t *testing.T) {
	for _, s := range append(texts(), strings.Repeat("ambry\x00\xfe", 200_000)) {
		f := fnv.New64a()
		f.Write([]byte(s))
		if h, want := hash.Of(s), f.Sum64(); h != want {
			t.Errorf("D1: Of(%.40q) of %d bytes = %d; want %d", s, len(s), h, want)
		}
	}
}

func TestOfAllShort(t *testing.T) {
	const begin = 14695981039346656037
	seen := map[uint64]string{begin: ""}
	check := func(s string) {
		h := hash.Of(s)
		if want := goesOn(begin, s); h != want {
			t.Errorf("D1: Of(%q) = %d; want %d", s, h, want)
		}
		if other, ok := seen[h]; ok {
			t.Errorf("D1: Of(%q) = Of(%q) = %d", s, other, h)
		}
		seen[h] = s
	}
	for a := range 256 {
		check(string([]byte{byte(a)}))
		for b := range 256 {
			check(string([]byte{byte(a), byte(b)}))
		}
	}
}

// A text's number goes on from that of its beginning.
func TestOfGoesOn(t *testing.T) {
	for _, s := range []string{"foobar", "\x00\x00a\x00", "caf\u00e9 \u20ac\xff\xfe", strings.Repeat("\xff", 40), allBytes(1)} {
		for n := range len(s) + 1 {
			if h, want := hash.Of(s), goesOn(hash.Of(s[:n]), s[n:]); h != want {
				t.Errorf("D1: Of(%.40q) = %d; from its first %d bytes on %d", s, h, n, want)
			}
		}
	}
	for _, first := range texts() {
		for _, c := range []string{"\x00", "a", "\x7f", "\x80", "\xff"} {
			if h, want := hash.Of(first+c), goesOn(hash.Of(first), c); h != want {
				t.Errorf("D1: Of(%.40q and %q) = %d; want %d", first, c, h, want)
			}
		}
	}
}

// R4: the same text, wherever its bytes lie, has the same number.
func TestOfAgain(t *testing.T) {
	for _, s := range texts() {
		h := hash.Of(s)
		if again := hash.Of(strings.Clone(s)); again != h {
			t.Errorf("D1, R4: Of(%.40q) = %d, then %d", s, h, again)
		}
	}
}

func TestBucket(t *testing.T) {
	for _, c := range []struct {
		h     uint64
		power int
		want  int
	}{
		{13, 2, 1}, {13, 0, 0}, {13, 1, 1}, {13, 3, 5}, {13, 4, 13}, {13, 5, 13}, {13, 30, 13},
		{0, 0, 0}, {0, 2, 0}, {0, 30, 0}, {1, 0, 0}, {1, 1, 1}, {1, 30, 1},
		{largest, 0, 0}, {largest, 1, 1}, {largest, 2, 3}, {largest, 20, 1<<20 - 1}, {largest, 29, 1<<29 - 1}, {largest, 30, 1<<30 - 1},
		{1 << 29, 29, 0}, {1 << 29, 30, 1 << 29}, {1 << 30, 30, 0}, {1 << 31, 30, 0}, {1 << 32, 30, 0}, {1 << 63, 30, 0}, {1<<63 | 5, 3, 5},
		{0xffffffff00000000, 30, 0}, {0x0123456789abcdef, 8, 0xef}, {0x0123456789abcdef, 16, 0xcdef}, {0x0123456789abcdef, 30, 0x9abcdef},
	} {
		if b := hash.Bucket(c.h, c.power); b != c.want {
			t.Errorf("D1: Bucket(%d, %d) = %d; want %d", c.h, c.power, b, c.want)
		}
	}
}

// The lowest bits, as the last signs of the number written with noughts and ones.
func TestBucketOfEachPower(t *testing.T) {
	for _, h := range numbers() {
		bits := fmt.Sprintf("%064b", h)
		for power := range 31 {
			want, _ := strconv.ParseInt("0"+bits[64-power:], 2, 64)
			if b := hash.Bucket(h, power); int64(b) != want {
				t.Errorf("D1: Bucket(%d, %d) = %d; want %d", h, power, b, want)
			}
		}
	}
}

func TestBucketOfOtherPowers(t *testing.T) {
	powers := []int{math.MinInt, math.MinInt + 1, math.MinInt32, math.MaxInt32, math.MaxInt - 1, math.MaxInt, -256, 256, 1 << 30, -1 << 30}
	for i := 1; i <= 130; i++ {
		powers = append(powers, -i, 30+i)
	}
	for _, h := range numbers() {
		for _, power := range powers {
			if b := hash.Bucket(h, power); b != 0 {
				t.Errorf("D1: Bucket(%d, %d) = %d; want 0", h, power, b)
			}
		}
	}
}

// The bucket of one power more is the same, or the same and 2^power.
func TestBucketOfOnePowerMore(t *testing.T) {
	l := numbers()
	for _, s := range texts() {
		l = append(l, hash.Of(s))
	}
	for _, h := range l {
		for power := range 30 {
			b, more := hash.Bucket(h, power), hash.Bucket(h, power+1)
			if more != b && more != b+1<<power {
				t.Errorf("D1: Bucket(%d, %d) = %d, but of one power more %d", h, power, b, more)
			}
			if b < 0 || b >= 1<<power {
				t.Errorf("D1: Bucket(%d, %d) = %d", h, power, b)
			}
		}
	}
}

func TestStripe(t *testing.T) {
	for _, c := range []struct {
		h    uint64
		n    int
		want int
	}{
		{5 << 32, 3, 2}, {5 << 32, 1, 0}, {5 << 32, 2, 1}, {5 << 32, 4, 1}, {5 << 32, 5, 0}, {5 << 32, 6, 5}, {5 << 32, 16, 5},
		{0, 1, 0}, {0, 3, 0}, {1, 3, 0}, {1<<32 - 1, 1, 0}, {1<<32 - 1, 3, 0}, {1<<32 - 1, 16, 0}, {1 << 32, 3, 1}, {1 << 31, 3, 0},
		{6<<32 - 1, 3, 2}, {6<<32 - 1, 16, 5}, {6 << 32, 16, 6}, {1 << 63, 16, 0}, {1 << 63, 3, 2},
		{largest, 1, 0}, {largest, 2, 1}, {largest, 3, 0}, {largest, 7, 3}, {largest, 16, 15}, {largest, 10, 5},
		{0x0123456789abcdef, 1000, 743}, {0xfedcba9876543210, 16, 8}, {13, math.MaxInt, 0}, {5 << 32, math.MaxInt, 5},
	} {
		if s := hash.Stripe(c.h, c.n); s != c.want {
			t.Errorf("D1: Stripe(%d, %d) = %d; want %d", c.h, c.n, s, c.want)
		}
	}
}

func TestStripeOfEachNumber(t *testing.T) {
	counts := []int{17, 100, 255, 256, 1000, 65536, 1<<30 + 1, math.MaxInt32, math.MaxInt - 1, math.MaxInt}
	for n := 1; n <= 16; n++ {
		counts = append(counts, n)
	}
	for _, h := range numbers() {
		high := new(big.Int).SetUint64(h)
		high.Div(high, new(big.Int).SetUint64(1<<32))
		for _, n := range counts {
			want := new(big.Int).Mod(high, big.NewInt(int64(n))).Int64()
			if s := hash.Stripe(h, n); int64(s) != want {
				t.Errorf("D1: Stripe(%d, %d) = %d; want %d", h, n, s, want)
			}
		}
	}
}

func TestStripeOfNBelow1(t *testing.T) {
	for _, h := range numbers() {
		for _, n := range []int{0, -1, -2, -3, -16, -17, math.MinInt32, math.MinInt + 1, math.MinInt} {
			if s := hash.Stripe(h, n); s != 0 {
				t.Errorf("D1: Stripe(%d, %d) = %d; want 0", h, n, s)
			}
		}
	}
}

// No bit below the 32nd counts for the stripe, and of the bucket none above its lowest ones.
func TestOtherBitsDoNotCount(t *testing.T) {
	for _, h := range numbers() {
		for i := range 64 {
			turned := h ^ 1<<i
			if i < 32 && hash.Stripe(turned, math.MaxInt) != hash.Stripe(h, math.MaxInt) {
				t.Errorf("D1: Stripe of %d hangs on bit %d", h, i)
			}
			for power := range min(i, 30) + 1 {
				if hash.Bucket(turned, power) != hash.Bucket(h, power) {
					t.Errorf("D1: Bucket of %d and %d hangs on bit %d", h, power, i)
				}
			}
		}
	}
}
