package item_test

import (
	"bytes"
	"encoding/binary"
	"math"
	"slices"
	"strings"
	"testing"

	"ambry/api"
	"ambry/item"
)

const (
	head = 40
	most = 65536 // bytes of a value
)

// written is what H1 says that Encode writes of an item that is right.
func written(x api.Item) []byte {
	le := binary.LittleEndian
	b := []byte{byte(len(x.Key)), 0, 0, 0}
	if x.Stale {
		b[1]++
	}
	if x.Won {
		b[1] += 2
	}
	b = le.AppendUint32(b, x.Flags)
	b = le.AppendUint32(b, uint32(len(x.Value)))
	b = append(b, 0, 0, 0, 0)
	b = le.AppendUint64(b, uint64(x.Exp))
	b = le.AppendUint64(b, x.Cas)
	b = le.AppendUint64(b, uint64(x.Last))
	return append(append(b, x.Key...), x.Value...)
}

// isRight is what the chapter calls so.
func isRight(x api.Item) bool {
	for i := range len(x.Key) {
		if x.Key[i] < 33 || x.Key[i] == 127 {
			return false
		}
	}
	return len(x.Key) >= 1 && len(x.Key) <= 250 && len(x.Value) <= most && x.Exp >= 0 && x.Last >= 0
}

// told is the right item with whose bytes b begins, if there is one: what b's numbers say, held against b.
func told(b []byte) (api.Item, bool) {
	le := binary.LittleEndian
	if len(b) < head {
		return api.Item{}, false
	}
	key, value := int(b[0]), int(le.Uint32(b[8:]))
	if key+value > len(b)-head {
		return api.Item{}, false
	}
	x := api.Item{
		Key:   string(b[head : head+key]),
		Flags: le.Uint32(b[4:]),
		Value: string(b[head+key : head+key+value]),
		Exp:   int64(le.Uint64(b[16:])),
		Cas:   le.Uint64(b[24:]),
		Last:  int64(le.Uint64(b[32:])),
		Stale: b[1]&1 != 0,
		Won:   b[1]&2 != 0,
	}
	if !isRight(x) || !bytes.HasPrefix(b, written(x)) {
		return api.Item{}, false
	}
	return x, true
}

// text has n bytes, all 256 of them by turns.
func text(n int) string {
	b := make([]byte, n)
	for i := range b {
		b[i] = byte(i*7 + i/256)
	}
	return string(b)
}

// some are items of all kinds: ordinary ones and those at the edges.
func some() []api.Item {
	long, large := strings.Repeat("k", 249)+"\xff", text(most)
	return []api.Item{
		{Key: "k", Value: "v", Flags: 5, Cas: 258},
		{Key: "k"},
		{Key: "!", Value: "\x00"},
		{Key: "\xff\x80", Value: "\r\n", Stale: true},
		{Key: "a:b", Value: " ", Won: true},
		{Key: "both", Value: "of them", Stale: true, Won: true},
		{Key: "numbers", Value: "far above a byte", Flags: 0x04030201, Exp: 0x0807060504030201, Cas: 0x100f0e0d0c0b0a09, Last: 0x1817161514131211, Won: true},
		{Key: "bits", Value: text(255), Flags: 0x80000001, Exp: 1, Cas: 1 << 63, Last: 1},
		{Key: "months", Value: text(256), Flags: 256, Exp: 2592000, Cas: 256, Last: 1 << 40},
		{Key: "most", Value: text(257), Flags: math.MaxUint32, Exp: math.MaxInt64, Cas: math.MaxUint64, Last: math.MaxInt64, Stale: true},
		{Key: "exp", Exp: math.MaxInt64},
		{Key: "last", Last: math.MaxInt64},
		{Key: "\u00e9\u2003\u3000", Value: "\u00e9\ufeff\xe2\x80"},
		{Key: long},
		{Key: long, Value: large, Flags: math.MaxUint32, Exp: math.MaxInt64, Cas: math.MaxUint64, Last: math.MaxInt64, Stale: true, Won: true},
		{Key: "k", Value: large},
		{Key: "k", Value: large[1:]},
		{Key: strings.Repeat("~", 128), Value: strings.Repeat("\x00", 32768)},
	}
}

// noKeys are texts that are no keys.
func noKeys() []string {
	return []string{
		"", " ", "a b", "a ", " a", "a\x00", "\x1f", "\x7f", "a\x7f\xff", "a\r", "\na", "\t", strings.Repeat("k", 249) + " ",
		strings.Repeat("k", 251), strings.Repeat("k", 255),
	}
}

// wrong are items that are not right, for one reason each.
func wrong() []api.Item {
	l := []api.Item{
		{Key: "k", Value: text(most + 1)},
		{Key: strings.Repeat("k", 250), Value: text(2 * most)},
	}
	for _, n := range []int64{-1, -2, -256, math.MinInt32, math.MinInt64, math.MinInt64 + 1} {
		l = append(l, api.Item{Key: "k", Value: "v", Exp: n}, api.Item{Key: "k", Value: "v", Last: n}, api.Item{Key: "k", Exp: n, Last: math.MaxInt64})
	}
	for _, key := range noKeys() {
		l = append(l, api.Item{Key: key}, api.Item{Key: key, Value: "v", Flags: 5, Exp: 1, Cas: 258, Last: 1, Stale: true})
	}
	return l
}

func encoded(t *testing.T, x api.Item) []byte {
	t.Helper()
	b, e := item.Encode(x)
	if e != api.OK {
		t.Fatalf("H1: Encode(%.40q, %d bytes): %v", x.Key, len(x.Value), e)
	}
	return b
}

// takes tells that Decode answers what H1 says of these bytes, and leaves them as they were.
func takes(t *testing.T, b []byte) {
	t.Helper()
	was := slices.Clone(b)
	want, is := told(b)
	x, e := item.Decode(b)
	switch {
	case !is && (e != api.ErrCode || x != api.Item{}):
		t.Fatalf("H1: Decode(%d bytes, %v ..) = %.40q, %d bytes, %v; want ErrCode and an empty item", len(b), b[:min(len(b), 48)], x.Key, len(x.Value), e)
	case is && (e != api.OK || x != want):
		t.Fatalf("H1: Decode(%d bytes, %v ..) = %.200q, %v; want the item of %.40q", len(b), b[:min(len(b), 48)], x.Key, e, want.Key)
	}
	if !bytes.Equal(b, was) {
		t.Fatalf("R1: Decode changed its bytes")
	}
}

// refuses tells that Decode takes these bytes for no item.
func refuses(t *testing.T, why string, b []byte) {
	t.Helper()
	if x, e := item.Decode(b); e != api.ErrCode || x != (api.Item{}) {
		t.Fatalf("H1: Decode of %s = %.40q, %d bytes, %v; want ErrCode and an empty item", why, x.Key, len(x.Value), e)
	}
}

func TestExample(t *testing.T) {
	want := []byte{
		1, 0, 0, 0, 5, 0, 0, 0, 1, 0, 0, 0, 0, 0, 0, 0,
		0, 0, 0, 0, 0, 0, 0, 0, 2, 1, 0, 0, 0, 0, 0, 0, 0, 0, 0, 0, 0, 0, 0, 0,
		'k', 'v',
	}
	x := api.Item{Key: "k", Value: "v", Flags: 5, Cas: 258}
	if b := encoded(t, x); !bytes.Equal(b, want) {
		t.Errorf("H1: Encode of the example = %v; want %v", b, want)
	}
	if y, e := item.Decode(want); y != x || e != api.OK {
		t.Errorf("H1: Decode of the example = %v, %v", y, e)
	}
	want[1] = 4
	refuses(t, "the example with the second byte 4", want)
}

func TestSize(t *testing.T) {
	for _, c := range []struct{ key, value, size int }{
		{0, 0, 40}, {1, 0, 41}, {0, 1, 41}, {1, 1, 42}, {250, 0, 290}, {250, 1000, 1290}, {251, 0, 291}, {255, 256, 551}, {3, 5, 48},
		{65536, 0, 65576}, {0, 65536, 65576}, {65535, 65536, 131111}, {65536, 65535, 131111}, {65536, 65536, 131112}, {250, 65536, 65826},
		{-1, 0, -1}, {0, -1, -1}, {-1, -1, -1}, {-1, 1, -1}, {1, -1, -1}, {65537, 0, -1}, {0, 65537, -1}, {65537, 65537, -1},
		{65536, 65537, -1}, {65537, 65536, -1}, {-1, 65536, -1}, {65536, -1, -1}, {-40, 0, -1}, {100, -50, -1}, {-50, 100, -1}, {65537, -65537, -1},
		{math.MaxInt, 0, -1}, {0, math.MaxInt, -1}, {math.MaxInt, math.MaxInt, -1}, {math.MinInt, 0, -1}, {0, math.MinInt, -1},
		{math.MinInt, math.MaxInt, -1}, {math.MaxInt, math.MinInt, -1}, {math.MinInt, math.MinInt, -1}, {1 << 32, 0, -1}, {0, 1<<32 + 5, -1},
	} {
		if size := item.Size(c.key, c.value); size != c.size {
			t.Errorf("H1: Size(%d, %d) = %d; want %d", c.key, c.value, size, c.size)
		}
	}
}

// Each number from a little below 0 to a little above 65536, in both places.
func TestSizeOfEachNumber(t *testing.T) {
	for n := -300; n <= most+300; n++ {
		for _, other := range []int{-1, 0, 1, 250, most - 1, most, most + 1} {
			want := -1
			if n >= 0 && n <= most && other >= 0 && other <= most {
				want = 40 + n + other
			}
			if size := item.Size(n, other); size != want {
				t.Fatalf("H1: Size(%d, %d) = %d; want %d", n, other, size, want)
			}
			if size := item.Size(other, n); size != want {
				t.Fatalf("H1: Size(%d, %d) = %d; want %d", other, n, size, want)
			}
		}
	}
}

func TestEncode(t *testing.T) {
	for _, x := range some() {
		b := encoded(t, x)
		if want := written(x); !bytes.Equal(b, want) {
			t.Errorf("H1: Encode(%.40q) = %v ..; want %v ..", x.Key, b[:min(len(b), 60)], want[:min(len(want), 60)])
		}
		if size := item.Size(len(x.Key), len(x.Value)); len(b) != size {
			t.Errorf("H1: Encode(%.40q) has %d bytes; Size tells %d", x.Key, len(b), size)
		}
	}
}

// Each field has its place: one bit of it changes one byte of what is written.
func TestEncodeOfEachBit(t *testing.T) {
	le := binary.LittleEndian
	holds := func(x api.Item, at int, bit uint64) {
		t.Helper()
		want := written(api.Item{Key: "key", Value: "value"})
		n := le.Uint64(want[at:]) | bit
		le.PutUint64(want[at:], n)
		if b := encoded(t, x); !bytes.Equal(b, want) {
			t.Errorf("H1: bit %b of the field at %d: Encode = %v; want %v", bit, at, b, want)
		}
		if y, e := item.Decode(want); y != x || e != api.OK {
			t.Errorf("H1: bit %b of the field at %d: Decode = %v, %v", bit, at, y, e)
		}
	}
	for i := range 64 {
		bit := uint64(1) << i
		holds(api.Item{Key: "key", Value: "value", Cas: bit}, 24, bit)
		if i < 32 {
			holds(api.Item{Key: "key", Value: "value", Flags: uint32(bit)}, 4, bit)
		}
		if i < 63 {
			holds(api.Item{Key: "key", Value: "value", Exp: int64(bit)}, 16, bit)
			holds(api.Item{Key: "key", Value: "value", Last: int64(bit)}, 32, bit)
		}
	}
	holds(api.Item{Key: "key", Value: "value", Stale: true}, 0, 1<<8)
	holds(api.Item{Key: "key", Value: "value", Won: true}, 0, 2<<8)
	holds(api.Item{Key: "key", Value: "value", Stale: true, Won: true}, 0, 3<<8)
}

func TestEncodeOfWrongItems(t *testing.T) {
	for _, x := range wrong() {
		if b, e := item.Encode(x); b != nil || e != api.ErrArg {
			t.Errorf("H1: Encode(%.40q of %d bytes, %d bytes, Exp %d, Last %d) = %d bytes, %v; want ErrArg and nothing", x.Key, len(x.Key), len(x.Value), x.Exp, x.Last, len(b), e)
		}
	}
}

// A key of each byte, and of each length.
func TestEncodeOfKeys(t *testing.T) {
	keys := []string{}
	for c := range 256 {
		s := string([]byte{byte(c)})
		keys = append(keys, s, "k"+s, s+"k", strings.Repeat("k", 249)+s, strings.Repeat(s, 250))
	}
	for n := range 600 {
		keys = append(keys, strings.Repeat("k", n))
	}
	for _, key := range keys {
		x := api.Item{Key: key, Value: "v", Flags: 5}
		b, e := item.Encode(x)
		if !isRight(x) && (b != nil || e != api.ErrArg) {
			t.Fatalf("H1: Encode of the key %.20q of %d bytes = %d bytes, %v; want ErrArg and nothing", key, len(key), len(b), e)
		}
		if isRight(x) && (e != api.OK || !bytes.Equal(b, written(x))) {
			t.Fatalf("H1: Encode of the key %.20q of %d bytes: %v", key, len(key), e)
		}
		takes(t, written(x))
	}
}

// A value of each length from none to 600 bytes, and close to 65536.
func TestLengthsOfValues(t *testing.T) {
	all := text(most + 300)
	for n := range len(all) + 1 {
		if n > 600 && n < most-300 && n%4096 > 1 {
			continue
		}
		x := api.Item{Key: "key", Value: all[:n], Cas: uint64(n)}
		b, e := item.Encode(x)
		if n > most && (b != nil || e != api.ErrArg) || n <= most && (e != api.OK || !bytes.Equal(b, written(x))) {
			t.Fatalf("H1: Encode of a value of %d bytes = %d bytes, %v", n, len(b), e)
		}
		takes(t, written(x))
		takes(t, append(written(x), all...))
	}
}

// Decode of Encode is the item, whatever stands behind.
func TestDecodeOfEncode(t *testing.T) {
	behinds := []string{"", "\x00", "\xff", "v", strings.Repeat("\x00", 40), strings.Repeat("\xff", 300), text(2 * most)}
	for _, x := range some() {
		b := encoded(t, x)
		for _, behind := range append(behinds, string(b)) {
			if y, e := item.Decode(append(slices.Clone(b), behind...)); y != x || e != api.OK {
				t.Errorf("H1: Decode of Encode(%.40q, %d bytes), and %d bytes behind it = %.40q, %d bytes, %v", x.Key, len(x.Value), len(behind), y.Key, len(y.Value), e)
			}
		}
	}
}

// What begins with nothing but a part of an item's bytes has none.
func TestDecodeOfBeginnings(t *testing.T) {
	refuses(t, "nothing", nil)
	refuses(t, "no bytes", []byte{})
	for _, x := range some() {
		b := written(x)
		for n := range b {
			if n < 400 || n > len(b)-400 || n%1000 == 0 {
				refuses(t, "a beginning", b[:n:n])
				// The others stand in memory, but are not handed in.
				refuses(t, "a beginning", b[:n])
			}
		}
	}
	for n := range 400 {
		refuses(t, "noughts", make([]byte, n))
		takes(t, bytes.Repeat([]byte{1}, n))
		takes(t, bytes.Repeat([]byte{255}, n))
	}
}

// Each of the first bytes made each other one: the item that is there then is told, if there is one.
func TestDecodeOfEachByte(t *testing.T) {
	large := text(2 * most)
	for _, x := range some() {
		if len(x.Value) > 1000 {
			continue
		}
		for _, behind := range []string{"", "0123456789", large[:700]} {
			changesEach(t, append(written(x), behind...), 0, 48)
		}
	}
	// So much behind it that lengths of more than two bytes could be taken.
	changesEach(t, append(written(api.Item{Key: "key", Value: "value", Won: true}), large...), 8, 12)
}

// changesEach makes each byte of b that lies between these each other one, one at a time.
func changesEach(t *testing.T, b []byte, from, to int) {
	t.Helper()
	for at := from; at < min(to, len(b)); at++ {
		was := b[at]
		for c := range 256 {
			b[at] = byte(c)
			takes(t, b)
		}
		b[at] = was
	}
}

// None of the noughts may be another byte, be it one or all of them.
func TestDecodeOfOtherNoughts(t *testing.T) {
	noughts := []int{2, 3, 12, 13, 14, 15}
	for _, x := range some() {
		b := written(x)
		for _, at := range noughts {
			for c := 1; c < 256; c++ {
				b[at] = byte(c)
				refuses(t, "a nought that is none", b)
			}
			b[at] = 0
		}
		for _, c := range []byte{1, 128, 255} {
			for _, at := range noughts {
				b[at] = c
			}
			refuses(t, "no noughts", b)
		}
	}
}

func TestDecodeOfMarks(t *testing.T) {
	for _, x := range some() {
		b := written(x)
		for c := range 256 {
			b[1] = byte(c)
			if c > 3 {
				refuses(t, "a second byte above 3", b)
				continue
			}
			x.Stale, x.Won = c == 1 || c == 3, c == 2 || c == 3
			if y, e := item.Decode(b); y != x || e != api.OK {
				t.Fatalf("H1: Decode with the second byte %d = stale %v, won %v, %v", c, y.Stale, y.Won, e)
			}
		}
	}
}

// Bytes whose numbers are those of an item that is not right.
func TestDecodeOfWrongItems(t *testing.T) {
	for _, x := range wrong() {
		refuses(t, "an item that is not right", written(x))
		refuses(t, "an item that is not right", append(written(x), text(1000)...))
	}
	for _, x := range some() {
		for _, at := range []int{16, 32} {
			b := written(x)
			b[at+7] |= 128
			refuses(t, "a moment below 0", b)
			copy(b[at:], []byte{255, 255, 255, 255, 255, 255, 255, 255})
			refuses(t, "a moment of -1", b)
			copy(b[at:], []byte{0, 0, 0, 0, 0, 0, 0, 128})
			refuses(t, "the lowest moment", b)
		}
	}
}

// A key's length says where the value begins, and how far all goes.
func TestDecodeOfLengthsOfKeys(t *testing.T) {
	b := written(api.Item{Key: "key", Value: "value", Flags: 5})
	for n := range 256 {
		b[0] = byte(n)
		for _, behind := range []int{0, 1, 246, 247, 248, 252, 300} {
			takes(t, append(slices.Clone(b), strings.Repeat("x", behind)...))
		}
	}
	for n, key := range map[int]string{1: "k", 2: "ke", 3: "key"} {
		b[0] = byte(n)
		if x, e := item.Decode(b); x.Key != key || x.Value != "keyvalue"[n:n+5] || x.Flags != 5 || e != api.OK {
			t.Errorf("H1: Decode with a key of %d bytes = %.40q, %.40q, %v", n, x.Key, x.Value, e)
		}
	}
	b[0] = 4
	refuses(t, "a key that is a byte longer, and all as long as it was", b)
	if x, e := item.Decode(append(b, '!')); x.Key != "keyv" || x.Value != "alue!" || e != api.OK {
		t.Errorf("H1: Decode with a key of 4 bytes = %.40q, %.40q, %v", x.Key, x.Value, e)
	}
	b[0] = 0
	refuses(t, "a key of no bytes", b)
}

// More than there is, more than may be, and numbers that go round in fewer than all their bits.
func TestDecodeOfLengthsOfValues(t *testing.T) {
	lengths := []uint32{
		0, 1, 4, 5, 6, 255, 256, 32768, most - 4, most - 3, most - 2, most - 1, most, most + 1, most + 5, 2 * most, 2*most + 5, 1 << 24, 1<<24 + 5, 1<<31 - 1, 1 << 31,
		1<<31 + 5, math.MaxUint32 - 47, math.MaxUint32 - 44, math.MaxUint32 - 43, math.MaxUint32 - 42, math.MaxUint32 - 2, math.MaxUint32 - 1, math.MaxUint32,
	}
	for _, key := range []string{"key", strings.Repeat("k", 250)} {
		for _, behind := range []int{0, 1, 2, 100, most - 6, most - 5, most - 4, most, 3 * most} {
			b := append(written(api.Item{Key: key, Value: "value", Flags: 5}), text(behind)...)
			for _, n := range lengths {
				binary.LittleEndian.PutUint32(b[8:], n)
				takes(t, b)
				if int(n) > min(most, 5+behind) {
					refuses(t, "a value of too many bytes", b)
				}
			}
		}
	}
}

// What came out is its owner's, and what was handed in is not kept.
func TestNothingIsShared(t *testing.T) {
	for _, x := range some() {
		want := written(x)
		first, second := encoded(t, x), encoded(t, x)
		y, e := item.Decode(first)
		for i := range first[:cap(first)] {
			first[:cap(first)][i] ^= 255
		}
		if e != api.OK || y != x {
			t.Errorf("R1: Decode(%.40q) changed with the bytes that were handed in: %.40q, %v", x.Key, y.Key, e)
		}
		if !bytes.Equal(second, want) || !bytes.Equal(written(x), want) {
			t.Errorf("R1: Encode(%.40q): writing over one answer changed another, or the item", x.Key)
		}
		if b := encoded(t, x); !bytes.Equal(b, want) {
			t.Errorf("R1: Encode(%.40q) behind writing over another answer: other bytes", x.Key)
		}
		if y, e := item.Decode(second); y != x || e != api.OK || !bytes.Equal(second, want) {
			t.Errorf("R1: Decode(%.40q) changed its bytes, or answered others: %v", x.Key, e)
		}
	}
}
