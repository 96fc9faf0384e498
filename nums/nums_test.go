package nums_test

import (
	"math"
	"math/big"
	"strings"
	"testing"

	"ambry/nums"
)

const (
	top      = "18446744073709551615" // 2^64 - 1
	aboveTop = "18446744073709551616"
)

// edges are numbers at which digits, words or signs turn over.
func edges() []uint64 {
	l := []uint64{0, math.MaxUint64}
	for i := range 64 {
		p := uint64(1) << i
		l = append(l, p-1, p, p+1)
	}
	for p := uint64(1); ; p *= 10 {
		l = append(l, p-1, p, p+1)
		if p > math.MaxUint64/10 {
			return l
		}
	}
}

// notNumbers are texts that neither Parse nor Signed takes.
func notNumbers() []string {
	l := []string{
		"", " ", "+", "-", "+1", "--1", "-+1", "1-", "1+", " 1", "1 ", "1 2", "1\n", "\r1", "1\x00", "\x001",
		"x", "0x10", "0b1", "0o7", "1_000", "_1", "1e3", "1.0", "1.", ".1", "1,000", "a1", "1a", "nan", "inf",
		"\u0661", "\uff11", "1\u00a0", "\xff", "\u22121",
		strings.Repeat("0", 21), strings.Repeat("0", 20) + "7", strings.Repeat("9", 21),
		strings.Repeat("0", 100000), strings.Repeat("1", 100000), strings.Repeat("-", 20),
	}
	for b := range 256 {
		if b < '0' || b > '9' {
			c := string([]byte{byte(b)})
			l = append(l, c, c+c, "1"+c, "1"+c+"1")
		}
	}
	return l
}

func TestParseTakes(t *testing.T) {
	for _, c := range []struct {
		s string
		n uint64
	}{
		{"0", 0}, {"1", 1}, {"9", 9}, {"10", 10}, {"007", 7}, {"00", 0},
		{"00000000000000000000", 0}, {"00000000000000000007", 7}, {"09999999999999999999", 9999999999999999999},
		{"4294967296", 1 << 32}, {"9223372036854775807", 1<<63 - 1}, {"9223372036854775808", 1 << 63},
		{"10000000000000000000", 10000000000000000000}, {"18446744073709551614", 1<<64 - 2}, {top, 1<<64 - 1},
	} {
		if n, ok := nums.Parse(c.s); n != c.n || !ok {
			t.Errorf("A1: Parse(%q) = %d, %v; want %d, true", c.s, n, ok, c.n)
		}
	}
}

func TestParseRefuses(t *testing.T) {
	wrong := append(notNumbers(), aboveTop, "18446744073709551620", "20000000000000000000", "99999999999999999999",
		"-1", "-0", "-5", "0"+top, "118446744073709551615")
	for _, s := range wrong {
		if n, ok := nums.Parse(s); n != 0 || ok {
			t.Errorf("A1: Parse(%.40q) = %d, %v; want 0, false", s, n, ok)
		}
	}
}

func TestSignedTakes(t *testing.T) {
	for _, c := range []struct {
		s string
		n int64
	}{
		{"0", 0}, {"-0", 0}, {"5", 5}, {"-5", -5}, {"007", 7}, {"-007", -7}, {"1099511627776", 1 << 40},
		{"0000000000000000000", 0}, {"-0000000000000000000", 0}, {"0000000000000000005", 5}, {"-0000000000000000005", -5},
		{"9223372036854775806", math.MaxInt64 - 1}, {"9223372036854775807", math.MaxInt64},
		{"-9223372036854775807", -math.MaxInt64}, {"-9223372036854775808", math.MinInt64},
	} {
		if n, ok := nums.Signed(c.s); n != c.n || !ok {
			t.Errorf("A1: Signed(%q) = %d, %v; want %d, true", c.s, n, ok, c.n)
		}
	}
}

func TestSignedRefuses(t *testing.T) {
	wrong := append(notNumbers(), "9223372036854775808", "-9223372036854775809", "9999999999999999999",
		"-9999999999999999999", "00000000000000000005", "-00000000000000000005", "00000000000000000000",
		"-00000000000000000000", "09223372036854775807", "-09223372036854775808", top, "-"+top, aboveTop,
		"99999999999999999999", "5-", "- 5", "\u22125")
	for _, s := range wrong {
		if n, ok := nums.Signed(s); n != 0 || ok {
			t.Errorf("A1: Signed(%.40q) = %d, %v; want 0, false", s, n, ok)
		}
	}
	for _, s := range notNumbers() {
		if n, ok := nums.Signed("-" + s); n != 0 || ok {
			t.Errorf("A1: Signed(%.40q) = %d, %v; want 0, false", "-"+s, n, ok)
		}
	}
}

func TestText(t *testing.T) {
	for _, n := range edges() {
		want := new(big.Int).SetUint64(n).String()
		if s := nums.Text(n); s != want {
			t.Errorf("A1: Text(%d) = %q; want %q", n, s, want)
		}
		if k, ok := nums.Parse(nums.Text(n)); k != n || !ok {
			t.Errorf("A1: Parse of Text(%d) = %d, %v", n, k, ok)
		}
	}
}

// TestDigits holds Parse and Signed against numbers without bounds, for digits that are near the edges, with noughts ahead.
func TestDigits(t *testing.T) {
	for _, n := range edges() {
		for noughts := range 22 {
			digits := strings.Repeat("0", noughts) + new(big.Int).SetUint64(n).String()
			b, _ := new(big.Int).SetString(digits, 10)
			k, ok := nums.Parse(digits)
			if want := len(digits) <= 20; ok != want || want && k != b.Uint64() || !want && k != 0 {
				t.Errorf("A1: Parse(%q) = %d, %v", digits, k, ok)
			}
			checkSigned(t, digits, digits, b)
			checkSigned(t, "-"+digits, digits, new(big.Int).Neg(b))
		}
	}
}

func checkSigned(t *testing.T, s, digits string, b *big.Int) {
	t.Helper()
	n, ok := nums.Signed(s)
	want := len(digits) <= 19 && b.IsInt64()
	if ok != want || want && n != b.Int64() || !want && n != 0 {
		t.Errorf("A1: Signed(%q) = %d, %v", s, n, ok)
	}
}

func TestAdd(t *testing.T) {
	for _, c := range []struct {
		s    string
		d    uint64
		want string
	}{
		{"0", 0, "0"}, {"007", 0, "7"}, {"007", 1, "8"}, {"99", 1, "100"}, {"00000000000000000000", 5, "5"},
		{"0", math.MaxUint64, top}, {top, 0, top}, {top, 1, "0"}, {top, 2, "1"}, {top, math.MaxUint64, "18446744073709551614"},
		{"9223372036854775808", 1 << 63, "0"}, {"9223372036854775807", 1 << 63, top}, {"1", math.MaxUint64, "0"},
	} {
		if s, ok := nums.Add(c.s, c.d); s != c.want || !ok {
			t.Errorf("A2: Add(%q, %d) = %q, %v; want %q, true", c.s, c.d, s, ok, c.want)
		}
	}
}

func TestSub(t *testing.T) {
	for _, c := range []struct {
		s    string
		d    uint64
		want string
	}{
		{"0", 0, "0"}, {"007", 0, "7"}, {"5", 4, "1"}, {"5", 5, "0"}, {"5", 6, "0"}, {"5", 9, "0"}, {"100", 1, "99"},
		{"0", 1, "0"}, {"0", math.MaxUint64, "0"}, {top, 0, top}, {top, 1, "18446744073709551614"},
		{top, math.MaxUint64, "0"}, {"18446744073709551614", math.MaxUint64, "0"}, {"9223372036854775808", 1 << 63, "0"},
		{"9223372036854775807", 1 << 63, "0"}, {"00000000000000000012", 2, "10"},
	} {
		if s, ok := nums.Sub(c.s, c.d); s != c.want || !ok {
			t.Errorf("A2: Sub(%q, %d) = %q, %v; want %q, true", c.s, c.d, s, ok, c.want)
		}
	}
}

func TestSumsRefuse(t *testing.T) {
	wrong := append(notNumbers(), aboveTop, "99999999999999999999", "-1", "-0", "0"+top)
	for _, s := range wrong {
		for _, d := range []uint64{0, 1, math.MaxUint64} {
			if r, ok := nums.Add(s, d); r != "" || ok {
				t.Errorf("A2: Add(%.40q, %d) = %q, %v; want nothing, false", s, d, r, ok)
			}
			if r, ok := nums.Sub(s, d); r != "" || ok {
				t.Errorf("A2: Sub(%.40q, %d) = %q, %v; want nothing, false", s, d, r, ok)
			}
		}
	}
}

// TestSums holds Add and Sub against numbers without bounds, and against each other where nothing went round.
func TestSums(t *testing.T) {
	whole := new(big.Int).Lsh(big.NewInt(1), 64)
	for _, n := range edges() {
		for _, d := range edges() {
			bn, bd := new(big.Int).SetUint64(n), new(big.Int).SetUint64(d)
			sum, less := new(big.Int).Add(bn, bd), new(big.Int).Sub(bn, bd)
			round := sum.Cmp(whole) >= 0
			if sum.Mod(sum, whole); less.Sign() < 0 {
				less.SetInt64(0)
			}
			s := bn.String()
			added, ok := nums.Add(s, d)
			if added != sum.String() || !ok {
				t.Errorf("A2: Add(%q, %d) = %q, %v; want %q", s, d, added, ok, sum)
			}
			if r, ok := nums.Sub(s, d); r != less.String() || !ok {
				t.Errorf("A2: Sub(%q, %d) = %q, %v; want %q", s, d, r, ok, less)
			}
			if r, ok := nums.Sub(added, d); !round && (r != s || !ok) {
				t.Errorf("A2: Sub of Add(%q, %d) = %q, %v", s, d, r, ok)
			}
		}
	}
}
