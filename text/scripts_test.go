package text_test

import (
	"math"
	"math/rand"
	"reflect"
	"strconv"
	"strings"
	"testing"

	"ambry/api"
	"ambry/text"
)

// pool are words of all kinds.
var pool = []string{"k", "0", "1", "2", "x", "-1", "noreply", "\x01", "65537", "4294967296", "1099511627777", "18446744073709551616"}

// lines goes through all lines of the name and up to so many words of these.
func lines(name string, l []string, most int, yield func(string)) {
	yield(name)
	if most == 0 {
		return
	}
	for _, word := range l {
		lines(name+" "+word, l, most-1, yield)
	}
}

// All lines of all names with up to three words of the pool, and what stands behind them.
func TestAllShortLines(t *testing.T) {
	for _, name := range append([]string{"noreply", "x", "GET"}, names...) {
		lines(name, pool, 3, func(s string) {
			isPlain(t, s+"\n")
			isPlain(t, s+"\r\nab\r\n")
		})
	}
}

// All stores of a few words.
func TestAllShortStores(t *testing.T) {
	few := []string{"k", "0", "2", "noreply", "x"}
	for _, name := range []string{"set", "prepend", "cas"} {
		lines(name, few, 6, func(s string) {
			isPlain(t, s+"\r\nab\r\n")
		})
	}
	for _, name := range stores {
		lines(name, few, 5, func(s string) {
			isPlain(t, s+"\n\r\n")
		})
	}
}

// All texts of a few bytes, so short that most are none yet, or empty lines.
func TestAllShortTexts(t *testing.T) {
	letters := []string{"\r", "\n", " ", "g", "\x00"}
	var grow func(s string, most int)
	grow = func(s string, most int) {
		isPlain(t, s)
		isPlain(t, "get k"+s)
		isPlain(t, "set k 0 0 2"+s)
		isPlain(t, "version"+s)
		if most > 0 {
			for _, c := range letters {
				grow(s+c, most-1)
			}
		}
	}
	grow("", 6)
}

// anyWord is a word that may be asked for, or nearly.
func anyWord(r *rand.Rand) string {
	switch r.Intn(12) {
	case 0:
		return "noreply"
	case 1:
		return strconv.Itoa(r.Intn(10))
	case 2:
		return strconv.FormatInt(r.Int63()>>r.Intn(63), 10)
	case 3:
		return strconv.FormatInt(-r.Int63()>>r.Intn(63), 10)
	case 4:
		return strconv.FormatUint(r.Uint64(), 10)
	case 5:
		return []string{"4294967295", "4294967296", "1099511627776", "1099511627777", "-1099511627776", "-1099511627777", "18446744073709551615", "18446744073709551616", "65536", "65537", "1073741824", "1073741825"}[r.Intn(12)]
	case 6:
		return strings.Repeat("k", 245+r.Intn(10))
	case 7:
		return string([]byte{byte(r.Intn(256)), byte(r.Intn(256))})
	}
	return pool[r.Intn(len(pool))]
}

// rightLine is a line that is nearly always right, and the value that it has, with its end.
func rightLine(r *rand.Rand) (string, string) {
	key := string(rune('a' + r.Intn(5)))
	number := strconv.FormatUint(r.Uint64()>>r.Intn(64), 10)
	secs := strconv.Itoa(r.Intn(1000) - 100)
	off := []string{"", "", " noreply"}[r.Intn(3)]
	name := names[r.Intn(len(names))]
	switch name {
	case "get", "gets":
		return name + strings.Repeat(" "+key, 1+r.Intn(5)), ""
	case "gat", "gats":
		return name + " " + secs + strings.Repeat(" "+key, 1+r.Intn(5)), ""
	case "incr", "decr":
		return name + " " + key + " " + number + off, ""
	case "touch":
		return name + " " + key + " " + secs + off, ""
	case "delete":
		return name + " " + key + []string{"", " 0"}[r.Intn(2)] + off, ""
	case "flush_all":
		return name + []string{"", " " + secs}[r.Intn(2)] + off, ""
	case "verbosity":
		return name + " " + number + off, ""
	case "stats":
		return name + []string{"", " slabs"}[r.Intn(2)], ""
	case "version", "quit":
		return name, ""
	}
	value := make([]byte, r.Intn(10))
	for i := range value {
		value[i] = "ab\r\n\x00 "[r.Intn(6)]
	}
	s := name + " " + key + " " + strconv.Itoa(r.Intn(10)) + " " + secs + " " + strconv.Itoa(len(value))
	if name == "cas" {
		s += " " + number
	}
	return s + off, string(value) + "\r\n"
}

// anyAsk is some bytes that begin with a request, of which some are bad.
func anyAsk(r *rand.Rand) string {
	end := []string{"\n", "\r\n"}[r.Intn(2)]
	if r.Intn(3) > 0 {
		s, value := rightLine(r)
		if r.Intn(8) == 0 && value != "" {
			value = value[1:] + "x"
		}
		return s + end + value
	}
	s := append([]string{"x", "noreply", ""}, names...)[r.Intn(len(names)+3)]
	for range r.Intn(8) {
		s += strings.Repeat(" ", 1+r.Intn(2)) + anyWord(r)
	}
	return s + end + []string{"", "ab\r\n", "\r\n"}[r.Intn(3)]
}

func TestAnyRequests(t *testing.T) {
	r := rand.New(rand.NewSource(20))
	for range 30000 {
		b := anyAsk(r)
		q, n := isPlain(t, b)
		if n == 0 {
			continue
		}
		holds(t, b[:n], q, n)
		holds(t, b+anyAsk(r), q, n)
		holds(t, b[:n]+string([]byte{byte(r.Intn(256))}), q, n)
		holds(t, b[:r.Intn(n)], none, 0)
	}
}

// All requests of some bytes, and what is left.
func all(b string) ([]api.Request, string) {
	var l []api.Request
	for {
		q, n := text.Parse(b)
		if n == 0 {
			return l, b
		}
		l = append(l, q)
		b = b[n:]
	}
}

// However the bytes come, in whatever pieces, the requests are the same: nothing is used of one that is not there yet.
func TestPieces(t *testing.T) {
	r := rand.New(rand.NewSource(200))
	for range 300 {
		b := ""
		for range 30 {
			b += anyAsk(r)
		}
		if r.Intn(10) == 0 {
			b += strings.Repeat("x", 5000)
		}
		want, left := all(b)
		for _, most := range []int{1, 2, 7, 100} {
			var got []api.Request
			in, rest := "", b
			for rest != "" {
				n := min(len(rest), 1+r.Intn(most))
				in, rest = in+rest[:n], rest[n:]
				var l []api.Request
				l, in = all(in)
				got = append(got, l...)
			}
			if !reflect.DeepEqual(got, want) || in != left {
				t.Fatalf("T1: of %s, in pieces of up to %d bytes: %s, left %s\nin one: %s, left %s", show(b), most, show(got), show(in), show(want), show(left))
			}
		}
	}
}

// Whatever comes, each request has its bytes, at most 2048 of a line, and is one that the chapter names.
func TestAnyBytes(t *testing.T) {
	r := rand.New(rand.NewSource(2))
	letters := "gestacdk 0123-\r\n\x00\xff"
	for range 3000 {
		b := make([]byte, r.Intn(5000))
		for i := range b {
			if r.Intn(4) == 0 {
				b[i] = byte(r.Intn(256))
			} else {
				b[i] = letters[r.Intn(len(letters))]
			}
		}
		s := string(b)
		for {
			q, n := isPlain(t, s)
			if n == 0 {
				break
			}
			if q.Kind < 1 || q.Kind > 6 || q.Meta != "" || q.Flags != nil || q.Word != "" || (q.Kind == 1) != (len(q.Commands) > 0) || (q.Kind == 2) != (q.Reply != "") {
				t.Fatalf("T1: Parse(%s) = %s", show(s), show(q))
			}
			s = s[n:]
		}
	}
}

// pick is one of them.
func pick(r *rand.Rand, l []int) int { return l[r.Intn(len(l))] }

// Any requests with any answers.
func TestAnyReplies(t *testing.T) {
	r := rand.New(rand.NewSource(22))
	texts := []string{"", "k", "a b", "\r\n", "\x00\xff", "v\r\nEND\r\n", strings.Repeat("v", 300)}
	for range 50000 {
		q := api.Request{Kind: 1, Quiet: r.Intn(2) == 0, Tokens: r.Intn(2) == 0, Reply: texts[r.Intn(len(texts))]}
		if r.Intn(3) == 0 {
			q.Kind = pick(r, kinds)
		}
		for range r.Intn(5) {
			c := api.Command{Op: 1, Key: texts[r.Intn(len(texts))]}
			if r.Intn(2) == 0 {
				c.Op = pick(r, ops)
			}
			q.Commands = append(q.Commands, c)
		}
		var l []api.Answer
		for range r.Intn(6) {
			a := hit(texts[r.Intn(len(texts))], texts[r.Intn(len(texts))], r.Uint32()>>r.Intn(32), r.Uint64()>>r.Intn(64))
			a.Number = r.Uint64() >> r.Intn(64)
			if r.Intn(2) == 0 {
				a.Status = pick(r, statuses)
			}
			l = append(l, a)
		}
		replies(t, q, l, plainReply(q, l))
	}
}

// Answers of long lists and great values do not take more than these.
func TestGreatReplies(t *testing.T) {
	value := strings.Repeat("v", 65536)
	var l []api.Answer
	q := api.Request{Kind: 1}
	for range 100 {
		l = append(l, hit("k", value, 0, math.MaxUint64))
		q.Commands = append(q.Commands, get("k"))
	}
	if got, want := text.Reply(q, l), strings.Repeat("VALUE k 0 65536\r\n"+value+"\r\n", 100)+"END\r\n"; got != want {
		t.Errorf("T2: Reply to 100 hits of 65536 bytes has %d bytes, want %d", len(got), len(want))
	}
}
