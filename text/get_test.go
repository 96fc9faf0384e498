package text_test

import (
	"strings"
	"testing"

	"ambry/api"
	"ambry/text"
)

// noKeys are words that are no keys, but for those with a blank or a line feed: these end a word.
func noKeys() []string {
	l := []string{strings.Repeat("k", 251), strings.Repeat("k", 300), strings.Repeat("\xff", 251)}
	for c := range 33 {
		if c == ' ' || c == '\n' {
			continue
		}
		l = append(l, string(rune(c)), "k"+string(rune(c)), string(rune(c))+"k", "k"+string(rune(c))+"k")
	}
	return append(l, "\x7f", "k\x7f", "\x7fk", strings.Repeat("k", 249)+"\x7f")
}

// keys are words that are keys, however they look.
func keys() []string {
	l := []string{"noreply", "0", "-1", "get", "18446744073709551616", strings.Repeat("k", 249), strings.Repeat("k", 250), strings.Repeat("\xff", 250), "\xc3\xa4", "\x80"}
	for c := 33; c < 256; c++ {
		if c != 127 {
			l = append(l, string([]byte{byte(c)}), string([]byte{'k', byte(c)}), string([]byte{byte(c), 'k'}))
		}
	}
	return l
}

// noSeconds are words by which no moment may be told.
var noSeconds = []string{"1099511627777", "-1099511627777", "1099511627778", "9223372036854775807", "-9223372036854775808", "9223372036854775808", "18446744073709551615", "18446744073709551616", "-18446744073709551615", "00000000000000000000", "-00000000000000000001", "-", "--1", "+1", "1-", "1.0", "0x1", "1e3", "x", "1x", "x1", "1_0", "\x00", "-x", "noreply", "1\x00", "\xd9\xa1"}

// someSeconds are words that tell a moment.
var someSeconds = map[string]int64{
	"0": 0, "-0": 0, "00": 0, "0000000000000000000": 0, "-0000000000000000000": 0,
	"1": 1, "-1": -1, "007": 7, "-007": -7, "60": 60,
	"2592000": 2592000, "2592001": 2592001, "-2592000": -2592000,
	"1099511627775": far - 1, "1099511627776": far, "0000001099511627776": far,
	"-1099511627775": 1 - far, "-1099511627776": -far, "-0000001099511627776": -far,
}

// noNumbers are words that are no number, for tokens and what is added.
var noNumbers = []string{"18446744073709551616", "18446744073709551625", "99999999999999999999", "000000000000000000000", "000000000000000000001", "018446744073709551615", "-1", "-0", "+1", "-", "+", "x", "1x", "x1", "0x10", "1.", "1,0", "1_0", "1e1", "\x00", "0\x00", "\xd9\xa1"}

// someNumbers are words that are one.
var someNumbers = map[string]uint64{
	"0": 0, "00": 0, "00000000000000000000": 0, "1": 1, "01": 1, "007": 7, "00000000000000000001": 1,
	"4294967295": 1<<32 - 1, "4294967296": 1 << 32, "9223372036854775807": 1<<63 - 1, "9223372036854775808": 1 << 63,
	"18446744073709551614": mostToken - 1, "18446744073709551615": mostToken,
}

func TestGet(t *testing.T) {
	line(t, "get k", do(get("k")))
	line(t, "get a b", do(get("a"), get("b")))
	line(t, "get b a c", do(get("b"), get("a"), get("c")))
	line(t, "get a a a", do(get("a"), get("a"), get("a")))
	line(t, "gets k", tokens(do(get("k"))))
	line(t, "gets a b", tokens(do(get("a"), get("b"))))
	line(t, "get", bad(noCommand))
	line(t, "gets", bad(noCommand))
	// It may not stand here, so it is a key.
	line(t, "get noreply", do(get("noreply")))
	line(t, "get k noreply", do(get("k"), get("noreply")))
	line(t, "gets k noreply noreply", tokens(do(get("k"), get("noreply"), get("noreply"))))
	line(t, "get get", do(get("get")))
	line(t, "get 0 -1 007", do(get("0"), get("-1"), get("007")))
	// Whatever else the key's bytes are.
	line(t, "get a\xffb\x80", do(get("a\xffb\x80")))
}

func TestGetTill(t *testing.T) {
	line(t, "gat 60 k", do(getTill("k", 60)))
	line(t, "gat 60 a b c", do(getTill("a", 60), getTill("b", 60), getTill("c", 60)))
	line(t, "gats 60 k", tokens(do(getTill("k", 60))))
	line(t, "gats -1 a b", tokens(do(getTill("a", -1), getTill("b", -1))))
	line(t, "gat 0 k", do(getTill("k", 0)))
	for _, name := range []string{"gat", "gats"} {
		line(t, name, bad(noCommand))
		line(t, name+" 60", bad(noCommand))
		line(t, name+" k", bad(noCommand))
		line(t, name+" k k", bad(badTime))
		line(t, name+" noreply", bad(noCommand))
		line(t, name+" noreply k", bad(badTime))
		line(t, name+" k 60", bad(badTime))
		// The first error in the row's order.
		line(t, name+" x \x01", bad(badTime))
		line(t, name+" 1099511627777 \x01 k", bad(badTime))
		line(t, name+" 60 \x01 x", bad(badLine))
	}
	line(t, "gat 60 k noreply", do(getTill("k", 60), getTill("noreply", 60)))
	line(t, "gat 60 noreply", do(getTill("noreply", 60)))
	line(t, "gat 60 60", do(getTill("60", 60)))
}

// As many keys as a line can have.
func TestManyKeys(t *testing.T) {
	for _, name := range []string{"get", "gets", "gat 5", "gats 5"} {
		for n := 1; n <= 1021; n++ {
			b := name + strings.Repeat(" k", n) + "\n"
			if len(b) > 2048 {
				break
			}
			c := get("k")
			if name[1] == 'a' {
				c = getTill("k", 5)
			}
			want := api.Request{Kind: 1, Tokens: strings.Contains(name, "s")}
			for range n {
				want.Commands = append(want.Commands, c)
			}
			holds(t, b, want, len(b))
			holds(t, b+"get k\r\n", want, len(b))
			holds(t, b[:len(b)-1], none, 0)
		}
	}
}

// Each name that takes keys, with keys and with words that are none.
func TestKeys(t *testing.T) {
	for _, key := range keys() {
		line(t, "get "+key, do(get(key)))
		line(t, "gets a "+key, tokens(do(get("a"), get(key))))
		line(t, "gat 1 "+key, do(getTill(key, 1)))
		line(t, "gats 1 "+key+" a", tokens(do(getTill(key, 1), getTill("a", 1))))
		line(t, "incr "+key+" 1", do(up(key, 1)))
		line(t, "decr "+key+" 1 noreply", quiet(do(down(key, 1))))
		line(t, "touch "+key+" 1", do(touch(key, 1)))
		line(t, "delete "+key+" 0", do(remove(key)))
		line(t, "delete "+key+" noreply", quiet(do(remove(key))))
		for _, name := range stores[:5] {
			valued(t, name+" "+key+" 0 0 1", "v\r\n", do(store(modes[name], key, 0, 0, "v")))
		}
		valued(t, "cas "+key+" 0 0 1 1", "v\r\n", do(cas(store(0, key, 0, 0, "v"), 1)))
	}
}

func TestNoKeys(t *testing.T) {
	for _, key := range noKeys() {
		// A carriage return at a line's end would not belong to the word.
		for _, end := range []string{" \n", " \r\n"} {
			for _, b := range []string{"get " + key, "gets " + key, "get a " + key, "get " + key + " a", "get a " + key + " b", "gat 1 " + key, "gats 1 a " + key, "gat 1 " + key + " a", "incr " + key + " 1", "decr " + key + " 1 noreply", "touch " + key + " 1", "touch " + key + " 1 noreply", "delete " + key, "delete " + key + " 0", "delete " + key + " noreply"} {
				parses(t, b+end, bad(badLine), len(b+end))
			}
			for _, name := range stores[:5] {
				b := name + " " + key + " 0 0 1" + end
				parses(t, b+"v\r\n", over(badLine, 1), len(b))
			}
			b := "cas " + key + " 0 0 1 1 noreply" + end
			parses(t, b+"v\r\n", over(badLine, 1), len(b))
		}
	}
}

// What was handed out is the caller's: whatever is written over it, other answers stay.
func TestCommandsAreTheCallers(t *testing.T) {
	b := "get a b c\r\n"
	q, _ := text.Parse(b)
	r, _ := text.Parse(b)
	for i := range q.Commands {
		q.Commands[i] = up("x", 5)
	}
	q.Commands = append(q.Commands[:1], q.Commands[:2]...)
	holds(t, b, do(get("a"), get("b"), get("c")), len(b))
	if got := r.Commands; len(got) != 3 || got[0] != get("a") || got[1] != get("b") || got[2] != get("c") {
		t.Errorf("R1: commands of another answer: %s", show(got))
	}
}
