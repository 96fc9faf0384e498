package words_test

import (
	"slices"
	"strings"
	"testing"

	"ambry/words"
)

// odd are bytes that other ways of reading take for blanks, ends of lines or parts of letters.
const odd = "\x00\t\v\f\x1c\x1f\x7f\x80\x85\xa0\xc2\xff"

// texts are all texts of at most n of these pieces.
func texts(n int, pieces ...string) []string {
	all := []string{""}
	last := all
	for range n {
		var next []string
		for _, s := range last {
			for _, p := range pieces {
				next = append(next, s+p)
			}
		}
		all = append(all, next...)
		last = next
	}
	return all
}

func TestLine(t *testing.T) {
	long := strings.Repeat("x", 5000)
	for _, c := range []struct {
		b, line string
		n       int
	}{
		{"get a\r\nb", "get a", 7}, {"get a\r\n", "get a", 7}, {"get a\n", "get a", 6}, {"a\r\r\n", "a\r", 4},
		{"\n", "", 1}, {"\r\n", "", 2}, {"\r\r\n", "\r", 3}, {"\r\r\r\n", "\r\r", 4}, {"\n\n", "", 1}, {"\n\r\n", "", 1},
		{"\r\n\r\n", "", 2}, {"a\nb\nc", "a", 2}, {"a\r\nb\r\n", "a", 3}, {"\ra\n", "\ra", 3}, {"a\rb\r\n", "a\rb", 5},
		{"a\rb\n", "a\rb", 4}, {"a\r \n", "a\r ", 4}, {" a \r\n", " a ", 5}, {"a\n\r", "a", 2}, {"\\n\n", "\\n", 3},
		{odd + "\r\n", odd, len(odd) + 2}, {"\u2028\u0085\n", "\u2028\u0085", 6}, {long + "\n" + long, long, 5001},
	} {
		if line, n := words.Line(c.b); line != c.line || n != c.n {
			t.Errorf("B1: Line(%.40q) = %.40q, %d; want %.40q, %d", c.b, line, n, c.line, c.n)
		}
	}
}

func TestLineWithoutLineFeed(t *testing.T) {
	for _, b := range []string{
		"", "a", "\r", "a\r", "\r\r", "get a b c", " ", odd, "\u2028", "\u0085", "\x0b", "\x8a", "\\n", strings.Repeat("x", 5000),
	} {
		if line, n := words.Line(b); line != "" || n != 0 {
			t.Errorf("B1: Line(%.40q) = %.40q, %d; want nothing, 0", b, line, n)
		}
	}
}

// lineByBytes is what B1 says, byte by byte.
func lineByBytes(b string) (string, int) {
	for i := range len(b) {
		if b[i] != 10 {
			continue
		}
		if i > 0 && b[i-1] == 13 {
			return b[:i-1], i + 1
		}
		return b[:i], i + 1
	}
	return "", 0
}

func TestLineOfAllShort(t *testing.T) {
	for _, b := range texts(6, "a", " ", "\r", "\n", "\xff") {
		line, n := words.Line(b)
		if wantLine, want := lineByBytes(b); line != wantLine || n != want {
			t.Errorf("B1: Line(%q) = %q, %d; want %q, %d", b, line, n, wantLine, want)
		}
	}
}

func TestLineOfTextWithLineFeed(t *testing.T) {
	for _, s := range append(texts(4, "a", " ", "\t", "\x00", "\u00e9"), odd, strings.Repeat(odd, 500)) {
		if line, n := words.Line(s + "\n" + s); line != s || n != len(s)+1 {
			t.Errorf("B1: Line(%.40q, line feed, ..) = %.40q, %d", s, line, n)
		}
		if line, n := words.Line(s + "\r\n" + s); line != s || n != len(s)+2 {
			t.Errorf("B1: Line(%.40q, carriage return, line feed, ..) = %.40q, %d", s, line, n)
		}
	}
}

func TestSplit(t *testing.T) {
	var many []string
	for range 2000 {
		many = append(many, "k", "\xff\x00")
	}
	for _, c := range []struct {
		line string
		l    []string
	}{
		{"", nil}, {" ", nil}, {"     ", nil}, {"a", []string{"a"}}, {" a", []string{"a"}}, {"a ", []string{"a"}},
		{"   a   ", []string{"a"}}, {"a b", []string{"a", "b"}}, {"  a  b\tc", []string{"a", "b\tc"}},
		{"get a b  c   d ", []string{"get", "a", "b", "c", "d"}}, {"a a a", []string{"a", "a", "a"}},
		{"\t", []string{"\t"}}, {" \r ", []string{"\r"}}, {"a\nb c\r\n", []string{"a\nb", "c\r\n"}}, {"\n \n", []string{"\n", "\n"}},
		{odd + " " + odd, []string{odd, odd}}, {"\u00a0 \u2003a\u3000", []string{"\u00a0", "\u2003a\u3000"}},
		{"\xe2\x80 \x83", []string{"\xe2\x80", "\x83"}}, {"a,b;c", []string{"a,b;c"}}, {"\" a b\"", []string{"\"", "a", "b\""}},
		{strings.Repeat("x", 5000) + " y", []string{strings.Repeat("x", 5000), "y"}}, {strings.Join(many, "   "), many},
	} {
		if l := words.Split(c.line); !slices.Equal(l, c.l) {
			t.Errorf("B2: Split(%.40q) = %.80q; want %.80q", c.line, l, c.l)
		}
	}
}

// splitByBytes is what B2 says, byte by byte.
func splitByBytes(line string) []string {
	var l []string
	within := false
	for i := range len(line) {
		switch {
		case line[i] == 32:
			within = false
		case within:
			l[len(l)-1] += line[i : i+1]
		default:
			l, within = append(l, line[i:i+1]), true
		}
	}
	return l
}

func TestSplitOfAllShort(t *testing.T) {
	for _, line := range texts(7, "a", " ", "\t", "\xa0") {
		if l, want := words.Split(line), splitByBytes(line); !slices.Equal(l, want) {
			t.Errorf("B2: Split(%q) = %q; want %q", line, l, want)
		}
	}
}

func TestSplitByEachByte(t *testing.T) {
	for b := range 256 {
		c := string([]byte{byte(b)})
		want := []string{"a" + c + "b"}
		if b == 32 {
			want = []string{"a", "b"}
		}
		if l := words.Split("a" + c + "b"); !slices.Equal(l, want) {
			t.Errorf("B2: Split of a, byte %d, b = %q; want %q", b, l, want)
		}
	}
}

func TestSplitIsTheCallers(t *testing.T) {
	const line = "get a b c"
	want := []string{"get", "a", "b", "c"}
	first, second := words.Split(line), words.Split(line)
	for i := range first {
		first[i] = "z"
	}
	_ = append(first[:0], "y", "y", "y")
	if !slices.Equal(second, want) || !slices.Equal(words.Split(line), want) {
		t.Errorf("R1: Split(%q) = %q, then %q, behind writing over another answer", line, second, words.Split(line))
	}
}

func TestKey(t *testing.T) {
	for _, s := range []string{
		"a", "!", "~", "0", "get", "a:b/c.d-e_f", "\u00e9", "\u3000", "\x80", "\xff", "\xc2\x85", "\xe2\x80", "\xa0", "!~",
		strings.Repeat("a", 249), strings.Repeat("a", 250), strings.Repeat("!", 250), strings.Repeat("\xff", 250),
		strings.Repeat("\u00e9", 125),
	} {
		if !words.Key(s) {
			t.Errorf("B3: Key(%.40q) of %d bytes = false; want true", s, len(s))
		}
	}
	for _, s := range []string{
		"", " ", "a b", " a", "a ", "a\tb", "a\r", "a\n", "\x00", "a\x00", "\x1f", "\x7f", "a\x7f", "\x7fa", "a\x7f\xff", "b\tc",
		strings.Repeat("a", 251), strings.Repeat("a", 249) + " ", strings.Repeat("a", 249) + "\x7f", " " + strings.Repeat("a", 249),
		strings.Repeat("a", 100000), strings.Repeat("\u00e9", 126), strings.Repeat("\xff", 251), strings.Repeat(" ", 250),
	} {
		if words.Key(s) {
			t.Errorf("B3: Key(%.40q) of %d bytes = true; want false", s, len(s))
		}
	}
}

func TestKeyOfEachByte(t *testing.T) {
	rest := strings.Repeat("k", 249)
	for b := range 256 {
		c := string([]byte{byte(b)})
		want := b >= 33 && b != 127
		for _, s := range []string{c, c + c, c + "k", "k" + c, "k" + c + "k", c + rest, rest + c, rest[:100] + c + rest[100:]} {
			if got := words.Key(s); got != want {
				t.Errorf("B3: Key(%.40q) of %d bytes with byte %d = %v; want %v", s, len(s), b, got, want)
			}
		}
		if words.Key(c + rest + "k") {
			t.Errorf("B3: Key of 251 bytes, the first of which is %d, = true; want false", b)
		}
	}
}

func TestKeyOfEachLength(t *testing.T) {
	for n := range 600 {
		if got, want := words.Key(strings.Repeat("k", n)), 1 <= n && n <= 250; got != want {
			t.Errorf("B3: Key of %d bytes = %v; want %v", n, got, want)
		}
	}
}

func TestJoin(t *testing.T) {
	for _, c := range []struct {
		l []string
		s string
	}{
		{nil, ""}, {[]string{}, ""}, {[]string{""}, ""}, {[]string{"a"}, "a"}, {[]string{"a", "b"}, "a b"},
		{[]string{"VALUE", "k", "0", "5"}, "VALUE k 0 5"}, {[]string{"", ""}, " "}, {[]string{"", "", ""}, "  "},
		{[]string{"a", ""}, "a "}, {[]string{"", "a"}, " a"}, {[]string{"a", "", "b"}, "a  b"}, {[]string{" "}, " "},
		{[]string{" a ", " b"}, " a   b"}, {[]string{"a\tb", "c\r\n"}, "a\tb c\r\n"}, {[]string{odd, odd}, odd + " " + odd},
	} {
		if s := words.Join(c.l); s != c.s {
			t.Errorf("B4: Join(%q) = %q; want %q", c.l, s, c.s)
		}
	}
}

func TestJoinLeavesItsList(t *testing.T) {
	whole := []string{"a", "b", "c", "d"}
	if s := words.Join(whole[:2]); s != "a b" {
		t.Errorf("B4: Join of a, b = %q", s)
	}
	if !slices.Equal(whole, []string{"a", "b", "c", "d"}) {
		t.Errorf("R1: Join left its list as %q", whole)
	}
}

func TestSplitOfJoin(t *testing.T) {
	some := []string{"a", "get", odd, "\r", "\n", "\u00e9", "\u2003", "-5"}
	for n := range len(some) + 1 {
		if l := words.Split(words.Join(some[:n])); !slices.Equal(l, some[:n]) {
			t.Errorf("B2, B4: Split of Join of %q = %q", some[:n], l)
		}
	}
	for _, line := range texts(6, "a", " ", "\t\xff") {
		l := words.Split(line)
		if again := words.Split(words.Join(l)); !slices.Equal(again, l) {
			t.Errorf("B2, B4: Split of Join of %q = %q", l, again)
		}
	}
}
