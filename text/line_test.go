package text_test

import (
	"strings"
	"testing"

	"ambry/api"
	"ambry/text"
)

func TestExamples(t *testing.T) {
	b := "set k 1 0 2\r\nab\r\n"
	parses(t, b, do(store(0, "k", 1, 0, "ab")), 17)
	parses(t, b[:16], none, 0)
	parses(t, "get\n", bad("ERROR"), 4)
	parses(t, "set k x 0 2\r\n", api.Request{Kind: 2, Reply: badLine, Skip: 4}, 13)
	r, _ := text.Parse("get k\r\n")
	a := api.Answer{Status: 1, Item: api.Item{Key: "k", Flags: 1, Value: "ab"}}
	if s := text.Reply(r, []api.Answer{a}); s != "VALUE k 1 2\r\nab\r\nEND\r\n" {
		t.Errorf("T2: Reply to a Hit of get: %q", s)
	}
}

// A line that does not end yet is none, till it has 2048 bytes.
func TestNoLineFeed(t *testing.T) {
	long := api.Request{Kind: 2, Reply: longLine, Close: true}
	for _, start := range []string{"", "get ", "version", "set k 1 0 2\r", "\r", " ", "\x00", "quit "} {
		for _, fill := range []string{"a", " ", "\r", "\x00", "\xff", "get "} {
			b := start + strings.Repeat(fill, 3000)
			for _, n := range []int{0, 1, 2, 3, 1000, 2045, 2046, 2047} {
				parses(t, b[:n], none, 0)
			}
			for _, n := range []int{2048, 2049, 2050, 3000} {
				parses(t, b[:n], long, 2048)
			}
			// A line feed behind the first 2048 bytes comes too late.
			for _, n := range []int{2048, 2049, 2500} {
				parses(t, b[:n]+"\n", long, 2048)
				parses(t, b[:n]+"\r\nget a\r\n", long, 2048)
			}
		}
	}
}

// A line may have 2048 bytes, the line feed and the carriage return among them.
func TestLongLine(t *testing.T) {
	keys, blanks := " "+strings.Repeat("k", 250), strings.Repeat(" ", 2100)
	for _, n := range []int{2000, 2045, 2046, 2047, 2048} {
		for _, end := range []string{"\n", "\r\n"} {
			b := "get a" + blanks[:n-len("get a"+end)] + end
			parses(t, b, do(get("a")), n)
			b = blanks[:n-len("version"+end)] + "version" + end
			parses(t, b, api.Request{Kind: 3}, n)
			b = "set k 1 0 2 " + blanks[:n-len("set k 1 0 2 noreply"+end)] + "noreply" + end
			parses(t, b, none, 0)
			parses(t, b+"\r\n\r\n", quiet(do(store(0, "k", 1, 0, "\r\n"))), n+4)
		}
	}
	eight := strings.Repeat(keys, 8)
	b := "get" + eight + " " + strings.Repeat("l", 2047-len("get"+eight+" "))
	q, n := text.Parse(b + "\n")
	if q.Kind != 1 || n != 2048 || len(q.Commands) != 9 {
		t.Errorf("T1: Parse of a line of nine keys, in all 2048 bytes: %s, %d", show(q), n)
	}
	parses(t, b+"l\n", api.Request{Kind: 2, Reply: longLine, Close: true}, 2048)
	// Of a line of 2049 bytes the carriage return would be the last one of the first 2048.
	parses(t, b+"\r\n", api.Request{Kind: 2, Reply: longLine, Close: true}, 2048)
}

func TestEmptyLines(t *testing.T) {
	for _, s := range []string{"", "\r", " ", " \r", "  ", "      \r", strings.Repeat(" ", 2047), strings.Repeat(" ", 2046) + "\r"} {
		parses(t, s+"\n", bad(noCommand), len(s)+1)
	}
	// A second carriage return is a word.
	parses(t, "\r\r\n", bad(noCommand), 3)
	parses(t, "version\r\r\n", bad(noCommand), 10)
	parses(t, "version \r\r\n", bad(noCommand), 11)
	parses(t, "get k\r\r\n", bad(badLine), 8)
	parses(t, "get k \r\r\n", bad(badLine), 9)
	parses(t, "stats \r\r\n", api.Request{Kind: 5, Arg: "\r"}, 9)
}

// A name is one of the chapter's, letter by letter; all else is none.
func TestNoNames(t *testing.T) {
	l := []string{"noreply", "END", "ERROR", "0", "k", "getx", "xget", "mn", "mg", "ms", "md", "ma", "me", "flush", "flushall", "flush_al", "verbose", "shutdown", "lru", "cache_memlimit", "slabs", "watch", "\x00", "\t", "\xff", "get\t", "get\x00", "\tget", "g", "ge", "a\tb", "-", "*", "sets", "ca", "cass", "touches", "gata", "incrs", "deletes", "versions", "quits", "stat"}
	for _, name := range names {
		l = append(l, strings.ToUpper(name), strings.ToUpper(name[:1])+name[1:], name+"x", "x"+name, name+"\x00", name+"\r\r", name+",")
	}
	for _, name := range l {
		for _, behind := range []string{"", " 0", " k", " k 0", " 0 0 0 0", " k 0 0 0 0", " noreply", " k noreply", " 0 0 0 0 noreply"} {
			line(t, name+behind, bad(noCommand))
		}
	}
	if len(names) != 19 {
		t.Errorf("there are %d names", len(names))
	}
}

// Words of which each may be all that is asked for, so that nothing but their number is wrong.
func TestNumberOfWords(t *testing.T) {
	for _, name := range names {
		takes, _ := rowOf(name)
		for n := range 14 {
			for offs := range 4 {
				b := name + strings.Repeat(" 0", n) + strings.Repeat(" noreply", offs)
				have := n + offs
				if takes.noreply && offs > 0 {
					have--
				}
				q, _ := text.Parse(b + "\r\n\r\n")
				if wrong := have < takes.least || have > takes.most; wrong != (q.Reply == noCommand) {
					t.Errorf("T1: Parse(%q) = %s", b, show(q))
				}
				if q.Quiet != (takes.noreply && offs > 0 && q.Kind != 2) {
					t.Errorf("T1: Parse(%q) = %s, Quiet %v", b, show(q), q.Quiet)
				}
				isPlain(t, b+"\r\n\r\n")
				isPlain(t, b+"\n\r\n")
			}
		}
	}
}

// asks is a request of so many bytes, and what it is.
type asks struct {
	b string
	q api.Request
}

// Several requests, one behind the other, each with its own end, good ones and bad ones.
func TestRequestsInARow(t *testing.T) {
	l := []asks{
		{"get a b\r\n", do(get("a"), get("b"))},
		{"set k 1 0 2\r\nab\r\n", do(store(0, "k", 1, 0, "ab"))},
		{"\n", bad(noCommand)},
		{"set k 1 0 5 noreply\nget a\r\n", quiet(do(store(0, "k", 1, 0, "get a")))},
		{"what is this\n", bad(noCommand)},
		{"cas k 1 0 0 7\r\n\r\n", do(cas(store(0, "k", 1, 0, ""), 7))},
		{"set k 1 0 2\r\nabcd", bad(badData)},
		{"incr k 2\n", do(up("k", 2))},
		{"delete k noreply\r\n", quiet(do(remove("k")))},
		{"verbosity 1\r\n", api.Request{Kind: 4}},
		{"flush_all -1\r\n", do(flush(-1))},
		{"stats slabs\r\n", api.Request{Kind: 5, Arg: "slabs"}},
		{"version\n", api.Request{Kind: 3}},
		{"touch k 0\r\n", do(touch("k", 0))},
		{"gats 7 k\r\n", tokens(do(getTill("k", 7)))},
		{"quit\r\n", api.Request{Kind: 6, Close: true}},
		{"get k\r\n", do(get("k"))},
	}
	b := ""
	for _, x := range l {
		b += x.b
	}
	for _, x := range l {
		holds(t, b, x.q, len(x.b))
		b = b[len(x.b):]
	}
	holds(t, b, none, 0)
}

// Of each kind of request, the bad ones too: how many bytes it has, what it skips, whether it closes.
func TestBytesOfKinds(t *testing.T) {
	big := strings.Repeat("v", 65537)
	for _, x := range []struct {
		b string
		q api.Request
		n int
	}{
		{"nothing\r\n", bad(noCommand), 9},
		{"get \x01\r\n", bad(badLine), 7},
		{"gat x k\r\n", bad(badTime), 9},
		{"gat 1 \x01\r\n", bad(badLine), 9},
		{"incr k x\r\n", bad(badDelta), 10},
		{"touch k x\r\n", bad(badTime), 11},
		{"delete k 1\r\n", bad(badLine), 12},
		{"flush_all x\r\n", bad(badTime), 13},
		{"set k 1 0 x\r\nab\r\n", bad(badLine), 13},
		{"set k 1 0 -1\r\nab\r\n", bad(badLine), 14},
		{"set k 1 0\r\nab\r\n", bad(noCommand), 11},
		{"set \x01 1 0 2\r\nab\r\n", over(badLine, 2), 13},
		{"set k x 0 2\r\nab\r\n", over(badLine, 2), 13},
		{"set k 1 x 2\r\nab\r\n", over(badLine, 2), 13},
		{"cas k 1 0 2 x\r\nab\r\n", over(badLine, 2), 15},
		{"set k 1 0 65537\r\n" + big + "\r\n", over(tooLarge, 65537), 17},
		{"set k 1 0 2\r\nab\r\r", bad(badData), 17},
		{"set k 1 0 2\nab\n\n", bad(badData), 16},
		{"set k 1 0 2\r\nab\r\n", do(store(0, "k", 1, 0, "ab")), 17},
		{"quit\r\n", api.Request{Kind: 6, Close: true}, 6},
		{strings.Repeat("k", 5000), api.Request{Kind: 2, Reply: longLine, Close: true}, 2048},
	} {
		parses(t, x.b, x.q, x.n)
		isPlain(t, x.b)
	}
}
