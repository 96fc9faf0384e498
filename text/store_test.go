package text_test

import (
	"fmt"
	"strings"
	"testing"

	"ambry/api"
	"ambry/text"
)

func TestStore(t *testing.T) {
	for _, name := range stores[:5] {
		mode := modes[name]
		valued(t, name+" k 1 0 2", "ab\r\n", do(store(mode, "k", 1, 0, "ab")))
		valued(t, name+" k 1 0 2 noreply", "ab\r\n", quiet(do(store(mode, "k", 1, 0, "ab"))))
		valued(t, name+" key 5 -60 3", "abc\r\n", do(store(mode, "key", 5, -60, "abc")))
		valued(t, name+" k 0 60 0", "\r\n", do(store(mode, "k", 0, 60, "")))
		valued(t, name+" k 0 60 0 noreply", "\r\n", quiet(do(store(mode, "k", 0, 60, ""))))
		valued(t, name+" noreply 1 0 2", "ab\r\n", do(store(mode, "noreply", 1, 0, "ab")))
		for _, s := range []string{"", " k", " k 1", " k 1 0", " k 1 0 noreply", " k 1 noreply", " k noreply", " noreply", " k 1 0 2 3", " k 1 0 2 3 noreply", " k 1 0 2 noreply noreply", " k 1 0 2 noreply 3", " \x01 x x x x x", " noreply noreply noreply noreply"} {
			line(t, name+s, bad(noCommand))
		}
		// What is missing is no number of bytes, so nothing is passed over.
		line(t, name+" noreply noreply noreply noreply noreply", bad(badLine))
	}
}

func TestCas(t *testing.T) {
	c := store(0, "k", 1, 0, "ab")
	valued(t, "cas k 1 0 2 7", "ab\r\n", do(cas(c, 7)))
	valued(t, "cas k 1 0 2 7 noreply", "ab\r\n", quiet(do(cas(c, 7))))
	valued(t, "cas k 1 0 2 0", "ab\r\n", do(cas(c, 0)))
	for word, n := range someNumbers {
		valued(t, "cas k 1 0 2 "+word, "ab\r\n", do(cas(c, n)))
		valued(t, "cas k 1 0 2 "+word+" noreply", "ab\r\n", quiet(do(cas(c, n))))
	}
	for _, word := range noNumbers {
		line(t, "cas k 1 0 2 "+word, over(badLine, 2))
		line(t, "cas k 1 0 2 "+word+" noreply", over(badLine, 2))
	}
	line(t, "cas k 1 0 2 noreply noreply", over(badLine, 2))
	for _, s := range []string{"", " k", " k 1", " k 1 0", " k 1 0 2", " k 1 0 2 noreply", " k 1 0 noreply", " noreply", " k 1 0 2 3 4", " k 1 0 2 3 4 noreply", " k 1 0 2 3 noreply noreply"} {
		line(t, "cas"+s, bad(noCommand))
	}
}

func TestFlags(t *testing.T) {
	for _, name := range stores {
		token, with := "", func(c api.Command) api.Command { return c }
		if name == "cas" {
			token, with = " 9", func(c api.Command) api.Command { return cas(c, 9) }
		}
		for word, n := range someNumbers {
			if n > mostFlags {
				line(t, name+" k "+word+" 0 1"+token, over(badLine, 1))
				continue
			}
			valued(t, name+" k "+word+" 0 1"+token, "v\r\n", do(with(store(modes[name], "k", uint32(n), 0, "v"))))
		}
		for _, word := range append([]string{"4294967296", "4294967297", "8589934591", "00000000004294967296", "noreply"}, noNumbers...) {
			line(t, name+" k "+word+" 0 1"+token, over(badLine, 1))
			line(t, name+" k "+word+" 0 1"+token+" noreply", over(badLine, 1))
		}
	}
}

// behindBytes is what stands behind the number of bytes in the name's line.
func behindBytes(name string) string {
	if name == "cas" {
		return " 3"
	}
	return ""
}

// A number of bytes that is none, or above 2^30: nothing is passed over, whatever else is wrong.
func TestNoBytes(t *testing.T) {
	l := append([]string{"1073741825", "1073741826", "2147483647", "2147483648", "4294967295", "4294967296", "4294967298", "9223372036854775807", "9223372036854775808", "18446744073709551615", "00000000001073741825", "noreply", "2.", "2b"}, noNumbers...)
	for _, name := range stores {
		token := behindBytes(name)
		for _, word := range l {
			for _, off := range []string{"", " noreply"} {
				if word == "noreply" && off+token == "" {
					continue
				}
				line(t, name+" k 1 0 "+word+token+off, bad(badLine))
				line(t, name+" \x01 x x "+word+token+off, bad(badLine))
			}
		}
		line(t, name+" k 1 0 noreply", bad(noCommand))
	}
}

// The greatest numbers of bytes that are passed over, and the least.
func TestTooLarge(t *testing.T) {
	for _, name := range stores {
		token := behindBytes(name)
		for word, n := range map[string]int{"65537": 65537, "65538": 65538, "00000000000000065537": 65537, "131072": 131072, "1048576": 1048576, "1073741823": 1<<30 - 1, "1073741824": 1 << 30, "00000000001073741824": 1 << 30} {
			line(t, name+" k 1 0 "+word+token, over(tooLarge, n))
			line(t, name+" k 1 0 "+word+token+" noreply", over(tooLarge, n))
			// What is wrong besides comes first in the row.
			line(t, name+" \x01 1 0 "+word+token, over(badLine, n))
			line(t, name+" k 4294967296 0 "+word+token+" noreply", over(badLine, n))
			line(t, name+" k 1 1099511627777 "+word+token, over(badLine, n))
		}
	}
	line(t, "cas k 1 0 65537 x", over(badLine, 65537))
	line(t, "cas k 1 0 1073741824 -1 noreply", over(badLine, 1<<30))
	b := "set k 1 0 65537\r\n"
	value := strings.Repeat("v", 65537)
	for _, behind := range []string{value + "\r\n", value + "\r\nget a\r\n", value[:65536], value + "xx", "\r\n"} {
		holds(t, b+behind, over(tooLarge, 65537), len(b))
	}
}

// The errors of a row, each with each: they are told in the row's order, with what is passed over.
func TestErrorsOfStores(t *testing.T) {
	keys, flags, times, casTokens := []string{"k", "\x01"}, []string{"1", "x"}, []string{"0", "x"}, []string{"3", "x"}
	for _, name := range stores {
		for _, size := range []string{"0", "2", "65536", "65537", "1073741824", "1073741825", "x"} {
			for n := range 16 {
				token := ""
				if name == "cas" {
					token = " " + casTokens[n/8]
				} else if n/8 > 0 {
					continue
				}
				b := fmt.Sprintf("%s %s %s %s %s%s", name, keys[n%2], flags[n/2%2], times[n/4%2], size, token)
				q, used := text.Parse(b + "\r\n")
				want := none
				switch {
				case size == "x" || size == "1073741825":
					want = bad(badLine)
				case n > 0:
					want = bad(badLine)
					want.Skip = map[string]int{"0": 2, "2": 4, "65536": 65538, "65537": 65539, "1073741824": 1073741826}[size]
				case len(size) > 5:
					want = over(tooLarge, 1<<30)
				case size == "65537":
					want = over(tooLarge, 65537)
				}
				if q.Kind != want.Kind || q.Reply != want.Reply || q.Skip != want.Skip || used != len(b+"\r\n")*min(1, want.Kind) {
					t.Errorf("T1: Parse(%s) = %s, %d, want %s", show(b), show(q), used, show(want))
				}
				isPlain(t, b+"\r\n")
				isPlain(t, b+" noreply\n")
				// A line that has too many words, or too few, is no store at all.
				line(t, b+" 1 1", bad(noCommand))
				line(t, strings.Join(strings.Split(b, " ")[:4], " "), bad(noCommand))
			}
		}
	}
}

// A value is there only with all its bytes, and the two behind it.
func TestShortValues(t *testing.T) {
	for _, name := range stores {
		token := behindBytes(name)
		for _, n := range []int{0, 1, 2, 3, 10, 100, 65535, 65536} {
			value := strings.Repeat("v", n) + "\r\n"
			for _, end := range []string{"\n", "\r\n", " noreply\r\n"} {
				b := fmt.Sprintf("%s k 1 0 %d%s%s", name, n, token, end)
				c := store(modes[name], "k", 1, 0, value[:n])
				if name == "cas" {
					c = cas(c, 3)
				}
				want := do(c)
				want.Quiet = len(end) > 2
				parses(t, b+value, want, len(b+value))
				for short := 1; short <= len(value) && short < 300; short++ {
					holds(t, b+value[:len(value)-short], none, 0)
				}
				holds(t, b, none, 0)
				// Whatever came of it till now.
				holds(t, b+strings.Repeat("\n", n+1), none, 0)
			}
		}
	}
}

// A value may be of any bytes; it ends where the line says.
func TestAnyValues(t *testing.T) {
	l := []string{"\n", "\r\n", "\r\n\r\n", "\x00", "\x00\x00\x00", "\xff\xfe", "get a\r\n", "a\r\nb", "END\r\n", "\r", "\n\n\n", "noreply", " ", "  ", strings.Repeat("\r\n", 500), strings.Repeat("\x00", 2047), strings.Repeat("\x00", 2048), strings.Repeat("a b\n", 16384)}
	for c := range 256 {
		l = append(l, string([]byte{byte(c)}))
	}
	for _, value := range l {
		for _, name := range stores[:5] {
			b := fmt.Sprintf("%s k 1 0 %d", name, len(value))
			valued(t, b, value+"\r\n", do(store(modes[name], "k", 1, 0, value)))
		}
		b := fmt.Sprintf("cas k 1 0 %d 8 noreply", len(value))
		valued(t, b, value+"\r\n", quiet(do(cas(store(0, "k", 1, 0, value), 8))))
	}
}

// The two bytes behind a value, if they are others than a line's end: they are used up all the same.
func TestBadEnds(t *testing.T) {
	for _, name := range stores {
		token := behindBytes(name)
		for _, n := range []int{0, 1, 2, 5, 65536} {
			value := strings.Repeat("v", n)
			for _, end := range []string{"\n\r", "\n\n", "\r\r", "\r\x00", "\x00\n", "xx", "\rx", "x\n", "  ", "\r\v", "\v\n", "\f\n", "vv", "v\r", "\x00\x00", "\xff\xff"} {
				b := fmt.Sprintf("%s k 1 0 %d%s", name, n, token)
				valued(t, b, value+end, bad(badData))
				valued(t, b+" noreply", value+end, bad(badData))
			}
		}
	}
	// The value was longer than the line says: its line's end comes too late.
	b := "set k 1 0 2\r\n"
	holds(t, b+"abc\r\n", bad(badData), len(b)+4)
	holds(t, b+"\r\n\r\n", do(store(0, "k", 1, 0, "\r\n")), len(b)+4)
	holds(t, b+"a\r\n", none, 0)
	holds(t, b+"a\r\nget a\r\n", bad(badData), len(b)+4)
	for c := range 256 {
		for d := range 256 {
			want := bad(badData)
			if c == 13 && d == 10 {
				want = do(store(0, "k", 1, 0, "ab"))
			}
			holds(t, b+"ab"+string([]byte{byte(c), byte(d)}), want, len(b)+4)
		}
	}
}

// The line may be of 2048 bytes, and the value stand far behind these.
func TestValueBehindLongLine(t *testing.T) {
	value := strings.Repeat("\n", 65536)
	for _, n := range []int{2047, 2048} {
		b := "set k 1 0 65536 noreply"
		b = strings.Replace(b, " ", strings.Repeat(" ", n-len(b)), 1) + "\n"
		if len(b) != n {
			t.Fatalf("the test's line has %d bytes", len(b))
		}
		parses(t, b+value+"\r\n", quiet(do(store(0, "k", 1, 0, value))), n+65538)
		parses(t, b+value+"\n\n", bad(badData), n+65538)
	}
}
