package b64_test

import (
	"encoding/base64"
	"strings"
	"testing"

	"ambry/b64"
)

const letters = "ABCDEFGHIJKLMNOPQRSTUVWXYZabcdefghijklmnopqrstuvwxyz0123456789+/"

// pair is some bytes, and the letters that they are written as.
type pair struct{ bytes, letters string }

// pairs are told by the chapter and RFC 4648, or worked out by hand.
func pairs() []pair {
	return []pair{
		{"", ""}, {"f", "Zg=="}, {"fo", "Zm8="}, {"foo", "Zm9v"}, {"foob", "Zm9vYg=="}, {"fooba", "Zm9vYmE="}, {"foobar", "Zm9vYmFy"},
		{"\x00", "AA=="}, {"\x00\x00", "AAA="}, {"\x00\x00\x00", "AAAA"}, {"\x00\x00\x00\x00", "AAAAAA=="},
		{"\xff", "/w=="}, {"\xff\xff", "//8="}, {"\xff\xff\xff", "////"}, {"\xff\xff\xff\xff", "/////w=="},
		{"\x01", "AQ=="}, {"\x03", "Aw=="}, {"\x04", "BA=="}, {"\x80", "gA=="}, {"\x00\x01", "AAE="}, {"\x00\x0f", "AA8="}, {"\x00\x10", "ABA="},
		{"\x00\x00\x01", "AAAB"}, {"\x00\x00\x3f", "AAA/"}, {"\x00\x00\x40", "AABA"}, {"\xfb\xef\xbe", "++++"}, {"\x14\xfb\x9c\x03\xd9\x7e", "FPucA9l+"},
		{"=", "PQ=="}, {"==", "PT0="}, {"\n", "Cg=="}, {"\r\n", "DQo="}, {" ", "IA=="}, {"a\x00b", "YQBi"}, {"\u00e9", "w6k="}, {"\u20ac", "4oKs"},
		{
			"\x00\x10\x83\x10\x51\x87\x20\x92\x8b\x30\xd3\x8f\x41\x14\x93\x51\x55\x97\x61\x96\x9b\x71\xd7\x9f" +
				"\x82\x18\xa3\x92\x59\xa7\xa2\x9a\xab\xb2\xdb\xaf\xc3\x1c\xb3\xd3\x5d\xb7\xe3\x9e\xbb\xf3\xdf\xbf", letters,
		},
	}
}

// allBytes are the bytes of every value, in order, as often as wanted.
func allBytes(times int) string {
	var b []byte
	for i := range 256 * times {
		b = append(b, byte(i))
	}
	return string(b)
}

// someBytes are n bytes without a plain order.
func someBytes(n int) string {
	b := make([]byte, n)
	x := uint32(n) + 1
	for i := range b {
		x = x*1664525 + 1013904223
		b[i] = byte(x >> 24)
	}
	return string(b)
}

// short are all texts of at most two bytes.
func short() []string {
	l := []string{""}
	for a := range 256 {
		l = append(l, string([]byte{byte(a)}))
		for b := range 256 {
			l = append(l, string([]byte{byte(a), byte(b)}))
		}
	}
	return l
}

// want is what C1 says of Decode: the library passes over line ends, so what it answers is written again.
func want(s string) (string, bool) {
	b, err := base64.StdEncoding.Strict().DecodeString(s)
	if err != nil || base64.StdEncoding.EncodeToString(b) != s {
		return "", false
	}
	return string(b), true
}

// checkDecode holds Decode of s against C1.
func checkDecode(t *testing.T, s string) {
	t.Helper()
	wantBytes, wantOK := want(s)
	if b, ok := b64.Decode(s); b != wantBytes || ok != wantOK {
		t.Errorf("C1: Decode(%.60q) = %.60q, %v; want %.60q, %v", s, b, ok, wantBytes, wantOK)
	}
}

// checkRefused holds Decode of s against nothing and false.
func checkRefused(t *testing.T, s string) {
	t.Helper()
	if b, ok := b64.Decode(s); b != "" || ok {
		t.Errorf("C1: Decode(%.60q) = %.60q, %v; want nothing, false", s, b, ok)
	}
}

func TestEncode(t *testing.T) {
	for _, p := range pairs() {
		if s := b64.Encode(p.bytes); s != p.letters {
			t.Errorf("C1: Encode(%q) = %q; want %q", p.bytes, s, p.letters)
		}
	}
}

func TestEncodeOfAllShort(t *testing.T) {
	for _, b := range short() {
		if s, want := b64.Encode(b), base64.StdEncoding.EncodeToString([]byte(b)); s != want {
			t.Errorf("C1: Encode(%q) = %q; want %q", b, s, want)
		}
	}
}

func TestEncodeOfEachLength(t *testing.T) {
	all := allBytes(3)
	for n := range len(all) + 1 {
		for _, b := range []string{all[:n], all[len(all)-n:], someBytes(n), strings.Repeat("\xff", n), strings.Repeat("\x00", n)} {
			if s, want := b64.Encode(b), base64.StdEncoding.EncodeToString([]byte(b)); s != want {
				t.Errorf("C1: Encode(%.40q) of %d bytes = %.40q; want %.40q", b, n, s, want)
			}
		}
	}
}

func TestDecode(t *testing.T) {
	for _, p := range pairs() {
		if b, ok := b64.Decode(p.letters); b != p.bytes || !ok {
			t.Errorf("C1: Decode(%q) = %q, %v; want %q, true", p.letters, b, ok, p.bytes)
		}
	}
}

func TestDecodeOfEncode(t *testing.T) {
	l := append(short(), allBytes(1), allBytes(7), someBytes(1_000_000), someBytes(1_000_001), someBytes(1_000_002))
	for n := range 600 {
		l = append(l, someBytes(n))
	}
	for _, want := range l {
		if b, ok := b64.Decode(b64.Encode(want)); b != want || !ok {
			t.Errorf("C1: Decode of Encode of %.40q (%d bytes) = %.40q, %v", want, len(want), b, ok)
		}
	}
}

func TestDecodeRefusesSigns(t *testing.T) {
	for _, s := range []string{
		"=", "==", "===", "====", "=====", "========",
		"Z", "Z=", "Z==", "Z===", "Z====", "Zg", "Zg=", "Zg===", "Zg====", "Zg=====", "Zg======",
		"Zm8", "Zm8==", "Zm8===", "Zm8====", "Zm8=====", "Zm9v=", "Zm9v==", "Zm9v===", "Zm9v====",
		"Zm9vYg", "Zm9vYg=", "Zm9vYg===", "Zm9vYmE", "Zm9vYmE==", "Zm9vYmFy=", "Zm9vYmFy====", "Zm9vY===", "Zm9vY=",
		"=Zg=", "==Zg", "Z=g=", "Z==g", "=Zm8", "Z=m8", "Zm=8", "=Zm9v", "====Zm9v", "Z=m9v", "Zm9=v", "Zg=v", "Zg=vYg==",
		"Zg==Zg==", "Zg==Zm9v", "Zm8=Zm8=", "Zm8=Zm9v", "Zg==Z", "Zm8=Z", "Zg==\n", "Zm8=\x00", "Zg== ", "Zm8=====Zg==", "Zg==Zg", "Zm8=Zg=",
	} {
		checkRefused(t, s)
	}
}

func TestDecodeRefusesLastBits(t *testing.T) {
	for _, s := range []string{
		"Zh==", "Zi==", "Zk==", "Zo==", "Zv==", "AB==", "AP==", "//==", "/x==", "Zm9=", "Zm+=", "Zm/=", "AAB=", "AAC=", "///=", "//9=",
		"Zm9vYh==", "Zm9vYmF=", "Zm9vYmG=",
	} {
		checkRefused(t, s)
	}
	// Of each letter: it may stand last if its last four bits, or two, are noughts.
	for i := range len(letters) {
		c := letters[i : i+1]
		for _, l := range []struct {
			s     string
			takes bool
		}{{"g" + c + "==", i%16 == 0}, {"Qg" + c + "=", i%4 == 0}, {"Zm9vg" + c + "==", i%16 == 0}, {"Zm9v/3" + c + "=", i%4 == 0}, {"AAA" + c, true}} {
			if _, ok := b64.Decode(l.s); ok != l.takes {
				t.Errorf("C1: Decode(%q) tells %v; want %v", l.s, ok, l.takes)
			}
			checkDecode(t, l.s)
		}
	}
}

func TestDecodeRefusesOtherBytes(t *testing.T) {
	for _, s := range []string{
		" ", "\n", "\r\n", "\x00", "    ", "\n\n\n\n", "Zm9v\n", "Zm9v\r\n", "\nZm9v", " Zm9v", "Zm9v ", "Zm 9v", "Zm9v\nYmFy", "Zm9v\r\nYmFy",
		"Zg=\n=", "Zg\n==", "Zm8\n=", "Zm9\n", "Zm9v\n\n\n\n", "Zm9v    ", "Zg==\r\n", "\tZm9", "Zm9-", "Zm9_", "-___", "Zm9,", "Zm9.", "Zm9*", "Zm9%",
		"\u00e9AA", "\u20acA", "\uff21AAA", "\xff\xff\xff\xff", "\x80AAA", "AAA\x7f", "%3D=", "Zg=\xff", "Zg=\u207c", "foo!", "@AAA", "[AAA", "`AAA", "{AAA", ":AAA",
	} {
		checkRefused(t, s)
	}
}

func TestDecodeRefusesOtherLengths(t *testing.T) {
	whole := b64.Encode(allBytes(1))
	for n := range len(whole) {
		checkDecode(t, whole[:n])
		if n%4 != 0 {
			checkRefused(t, whole[:n])
		}
	}
	for n := range 1000 {
		if s := strings.Repeat("A", n); n%4 != 0 {
			checkRefused(t, s)
		} else if b, ok := b64.Decode(s); !ok || b != strings.Repeat("\x00", n/4*3) {
			t.Errorf("C1: Decode of %d times A = %.40q, %v", n, b, ok)
		}
	}
}

func TestDecodeOfEachByteAtEachPlace(t *testing.T) {
	for _, s := range []string{"Zg==", "Zm8=", "Zm9v", "Zm9vYg==", "Zm9vYmE=", "Zm9vYmFy"} {
		for i := range len(s) + 1 {
			for b := range 256 {
				c := string([]byte{byte(b)})
				checkDecode(t, s[:i]+c+s[i:])
				if i < len(s) {
					checkDecode(t, s[:i]+c+s[i+1:])
					checkDecode(t, s[:i]+c)
				}
			}
		}
	}
}

// All short texts of letters, signs and other bytes: what Decode takes, Encode writes as the same letters.
func TestDecodeOfAllShort(t *testing.T) {
	const pieces = "AQgx9+/=\n -\xff"
	l := []string{""}
	for range 5 {
		var next []string
		for _, s := range l {
			checkDecode(t, s)
			if b, ok := b64.Decode(s); ok && b64.Encode(b) != s {
				t.Errorf("C1: Encode of Decode of %q = %q", s, b64.Encode(b))
			}
			for i := range len(pieces) {
				next = append(next, s+pieces[i:i+1])
			}
		}
		l = next
	}
	for _, s := range l {
		checkDecode(t, s)
	}
}

func TestDecodeOfLongWrongTexts(t *testing.T) {
	const n = 1_000_000
	for _, s := range []string{
		strings.Repeat("=", n), strings.Repeat("A", n) + "=", strings.Repeat("A", n) + "====", strings.Repeat("A", n) + "\n",
		strings.Repeat("A", n+1), strings.Repeat("Zg==", n/4), strings.Repeat("\x00", n), "=" + strings.Repeat("A", n-1),
	} {
		checkRefused(t, s)
	}
}
