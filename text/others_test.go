package text_test

import (
	"testing"

	"ambry/api"
)

func TestMath(t *testing.T) {
	line(t, "incr k 1", do(up("k", 1)))
	line(t, "decr k 1", do(down("k", 1)))
	line(t, "incr k 5 noreply", quiet(do(up("k", 5))))
	line(t, "decr k 5 noreply", quiet(do(down("k", 5))))
	line(t, "incr noreply 5", do(up("noreply", 5)))
	for word, n := range someNumbers {
		line(t, "incr k "+word, do(up("k", n)))
		line(t, "decr k "+word, do(down("k", n)))
		line(t, "incr k "+word+" noreply", quiet(do(up("k", n))))
	}
	for _, name := range []string{"incr", "decr"} {
		for _, word := range noNumbers {
			line(t, name+" k "+word, bad(badDelta))
			line(t, name+" k "+word+" noreply", bad(badDelta))
			// The key comes first in the row.
			line(t, name+" \x01 "+word, bad(badLine))
		}
		line(t, name+" k noreply noreply", bad(badDelta))
		for _, s := range []string{"", " k", " k noreply", " noreply", " noreply noreply", " k 1 1", " k 1 1 noreply", " k 1 noreply noreply", " k 1 noreply 1", " \x01", " \x01 x x"} {
			line(t, name+s, bad(noCommand))
		}
	}
}

func TestTouch(t *testing.T) {
	line(t, "touch k 60", do(touch("k", 60)))
	line(t, "touch k 60 noreply", quiet(do(touch("k", 60))))
	line(t, "touch noreply 60", do(touch("noreply", 60)))
	line(t, "touch noreply 60 noreply", quiet(do(touch("noreply", 60))))
	line(t, "touch k noreply noreply", bad(badTime))
	for _, s := range []string{"", " k", " k noreply", " noreply", " noreply noreply", " k 1 1", " k 1 1 noreply", " k 1 noreply noreply", " \x01", " \x01 x x"} {
		line(t, "touch"+s, bad(noCommand))
	}
	for _, word := range noSeconds {
		// The key comes first in the row.
		line(t, "touch \x01 "+word+" noreply", bad(badLine))
	}
}

// Each name that takes seconds, with those that may be, and with others.
func TestSeconds(t *testing.T) {
	for word, n := range someSeconds {
		line(t, "gat "+word+" k", do(getTill("k", n)))
		line(t, "gats "+word+" k l", tokens(do(getTill("k", n), getTill("l", n))))
		line(t, "touch k "+word, do(touch("k", n)))
		line(t, "touch k "+word+" noreply", quiet(do(touch("k", n))))
		line(t, "flush_all "+word, do(flush(n)))
		line(t, "flush_all "+word+" noreply", quiet(do(flush(n))))
		for _, name := range stores[:5] {
			valued(t, name+" k 0 "+word+" 1", "v\r\n", do(store(modes[name], "k", 0, n, "v")))
		}
		valued(t, "cas k 0 "+word+" 1 1 noreply", "v\r\n", quiet(do(cas(store(0, "k", 0, n, "v"), 1))))
	}
	for _, word := range noSeconds {
		line(t, "gat "+word+" k", bad(badTime))
		line(t, "gats "+word+" k l", bad(badTime))
		line(t, "touch k "+word+" noreply", bad(badTime))
		line(t, "flush_all "+word+" noreply", bad(badTime))
		if word != "noreply" {
			line(t, "touch k "+word, bad(badTime))
			line(t, "flush_all "+word, bad(badTime))
		}
		for _, name := range stores[:5] {
			line(t, name+" k 0 "+word+" 1", over(badLine, 1))
		}
		line(t, "cas k 0 "+word+" 1 1 noreply", over(badLine, 1))
	}
}

func TestDelete(t *testing.T) {
	line(t, "delete k", do(remove("k")))
	line(t, "delete k 0", do(remove("k")))
	line(t, "delete k noreply", quiet(do(remove("k"))))
	line(t, "delete k 0 noreply", quiet(do(remove("k"))))
	line(t, "delete 0", do(remove("0")))
	line(t, "delete noreply 0", do(remove("noreply")))
	line(t, "delete noreply noreply", quiet(do(remove("noreply"))))
	for _, word := range []string{"1", "-0", "00", "+0", "0x", "x", "-1", "60", "0.", "\x00", "O", "o", "00000000000000000000"} {
		line(t, "delete k "+word, bad(badLine))
		line(t, "delete k "+word+" noreply", bad(badLine))
		line(t, "delete \x01 "+word, bad(badLine))
	}
	line(t, "delete k noreply noreply", bad(badLine))
	line(t, "delete k noreply 0", bad(noCommand))
	for _, s := range []string{"", " noreply", " k 0 0", " k 0 0 noreply", " k 0 noreply noreply", " \x01 1 1"} {
		line(t, "delete"+s, bad(noCommand))
	}
}

func TestFlush(t *testing.T) {
	line(t, "flush_all", do(flush(0)))
	line(t, "flush_all noreply", quiet(do(flush(0))))
	line(t, "flush_all 60", do(flush(60)))
	line(t, "flush_all 60 noreply", quiet(do(flush(60))))
	line(t, "flush_all -1", do(flush(-1)))
	line(t, "flush_all noreply noreply", bad(badTime))
	line(t, "flush_all x", bad(badTime))
	for _, s := range []string{" 1 1", " x x", " 1 1 noreply", " 1 noreply noreply", " noreply 1", " noreply noreply noreply"} {
		want := bad(noCommand)
		line(t, "flush_all"+s, want)
	}
}

func TestVersion(t *testing.T) {
	line(t, "version", api.Request{Kind: 3})
	for _, s := range []string{" 1", " noreply", " x y", " noreply noreply", " \x01"} {
		line(t, "version"+s, bad(noCommand))
	}
}

func TestVerbosity(t *testing.T) {
	for _, word := range []string{"1", "0", "-1", "x", "\x01", "99999999999999999999999", "noreply1"} {
		line(t, "verbosity "+word, api.Request{Kind: 4})
		line(t, "verbosity "+word+" noreply", api.Request{Kind: 4, Quiet: true})
	}
	line(t, "verbosity noreply noreply", api.Request{Kind: 4, Quiet: true})
	for _, s := range []string{"", " noreply", " 1 1", " 1 1 noreply", " 1 noreply noreply", " noreply 1"} {
		line(t, "verbosity"+s, bad(noCommand))
	}
}

func TestStats(t *testing.T) {
	line(t, "stats", api.Request{Kind: 5})
	for _, word := range []string{"slabs", "reset", "items", "noreply", "x", "0", "\x01", "\xff", "SLABS"} {
		line(t, "stats "+word, api.Request{Kind: 5, Arg: word})
		line(t, "stats "+word+" noreply", bad(noCommand))
	}
	for _, s := range []string{" a b", " noreply noreply", " a b c", " \x01 \x01"} {
		line(t, "stats"+s, bad(noCommand))
	}
}

func TestQuit(t *testing.T) {
	line(t, "quit", api.Request{Kind: 6, Close: true})
	for _, s := range []string{" 1", " noreply", " x y", " noreply noreply"} {
		line(t, "quit"+s, bad(noCommand))
	}
}
