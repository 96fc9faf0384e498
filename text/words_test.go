package text_test

import (
	"fmt"
	"math/big"
	"reflect"
	"strconv"
	"strings"
	"testing"

	"ambry/api"
	"ambry/text"
)

// What is told of bad ones.
const (
	noCommand = "ERROR"
	badLine   = "CLIENT_ERROR bad command line format"
	badTime   = "CLIENT_ERROR invalid exptime argument"
	badDelta  = "CLIENT_ERROR invalid numeric delta argument"
	badData   = "CLIENT_ERROR bad data chunk"
	longLine  = "CLIENT_ERROR line too long"
	tooLarge  = "SERVER_ERROR object too large for cache"
)

const (
	far       = 1 << 40
	mostFlags = 1<<32 - 1
	mostToken = 1<<64 - 1
)

// none is the request that is not there yet.
var none = api.Request{}

// modes are the names that store, each with its mode's number.
var modes = map[string]int{"set": 0, "add": 1, "replace": 2, "append": 3, "prepend": 4, "cas": 0}

// stores are the names that store, in order.
var stores = []string{"set", "add", "replace", "append", "prepend", "cas"}

// names are all that the chapter's table has.
var names = []string{"get", "gets", "gat", "gats", "set", "add", "replace", "append", "prepend", "cas", "incr", "decr", "touch", "delete", "flush_all", "version", "verbosity", "stats", "quit"}

// show tells anything in not too many letters, all of which can be read.
func show(a any) string {
	s := fmt.Sprintf("%+v", a)
	if len(s) > 600 {
		s = s[:600] + " .."
	}
	return strings.Trim(strconv.Quote(s), `"`)
}

func bad(reply string) api.Request { return api.Request{Kind: 2, Reply: reply} }

// over is a bad one behind which a value of n bytes is passed over.
func over(reply string, n int) api.Request { return api.Request{Kind: 2, Reply: reply, Skip: n + 2} }

func do(l ...api.Command) api.Request { return api.Request{Kind: 1, Commands: l} }

func quiet(r api.Request) api.Request {
	r.Quiet = true
	return r
}

func tokens(r api.Request) api.Request {
	r.Tokens = true
	return r
}

func get(key string) api.Command { return api.Command{Op: 1, Key: key, Recache: -1} }

func getTill(key string, exp int64) api.Command {
	return api.Command{Op: 1, Key: key, Exp: exp, HasExp: true, Recache: -1}
}

func store(mode int, key string, flags uint32, exp int64, value string) api.Command {
	return api.Command{Op: 2, Mode: mode, Key: key, Flags: flags, Exp: exp, Value: value, Recache: -1}
}

// cas is the command with a token.
func cas(c api.Command, token uint64) api.Command {
	c.HasCas, c.Cas = true, token
	return c
}

func up(key string, delta uint64) api.Command {
	return api.Command{Op: 3, Key: key, Delta: delta, Recache: -1}
}

func down(key string, delta uint64) api.Command {
	return api.Command{Op: 3, Key: key, Delta: delta, Down: true, Recache: -1}
}

func touch(key string, exp int64) api.Command {
	return api.Command{Op: 4, Key: key, Exp: exp, Recache: -1}
}

func remove(key string) api.Command { return api.Command{Op: 5, Key: key, Recache: -1} }

func flush(exp int64) api.Command { return api.Command{Op: 6, Exp: exp, Recache: -1} }

// number is what the digits say, if they are at most 20 and no more than most.
func number(s string, most uint64) (uint64, bool) {
	if s == "" || len(s) > 20 || strings.Trim(s, "0123456789") != "" {
		return 0, false
	}
	n, _ := new(big.Int).SetString(s, 10)
	if n.Cmp(new(big.Int).SetUint64(most)) > 0 {
		return 0, false
	}
	return n.Uint64(), true
}

// seconds are what the text says, if they may be.
func seconds(s string) (int64, bool) {
	digits := s
	if strings.HasPrefix(s, "-") {
		digits = s[1:]
	}
	if len(digits) > 19 {
		return 0, false
	}
	n, ok := number(digits, far)
	if !ok {
		return 0, false
	}
	if digits != s {
		return -int64(n), true
	}
	return int64(n), true
}

func isKey(s string) bool {
	if len(s) < 1 || len(s) > 250 {
		return false
	}
	for _, c := range []byte(s) {
		if c <= ' ' || c == 127 {
			return false
		}
	}
	return true
}

// fault is one of a row's errors, and whether it is there.
type fault struct {
	is bool
	q  api.Request
}

// first is the first error that is there; else what the row says.
func first(otherwise api.Request, l ...fault) api.Request {
	for _, f := range l {
		if f.is {
			return f.q
		}
	}
	return otherwise
}

// row is what the chapter's table says of names: so many words, perhaps with noreply.
type row struct {
	least, most int
	noreply     bool
}

func rowOf(name string) (row, bool) {
	switch name {
	case "get", "gets":
		return row{1, 9999, false}, true
	case "gat", "gats":
		return row{2, 9999, false}, true
	case "set", "add", "replace", "append", "prepend":
		return row{4, 4, true}, true
	case "cas":
		return row{5, 5, true}, true
	case "incr", "decr", "touch":
		return row{2, 2, true}, true
	case "delete":
		return row{1, 2, true}, true
	case "flush_all":
		return row{0, 1, true}, true
	case "version", "quit":
		return row{0, 0, false}, true
	case "verbosity":
		return row{1, 1, true}, true
	case "stats":
		return row{0, 1, false}, true
	}
	return row{}, false
}

// plain is Parse by the chapter's words alone.
func plain(b string) (api.Request, int) {
	at := strings.IndexByte(b, 10)
	if at < 0 || at >= 2048 {
		if len(b) < 2048 {
			return none, 0
		}
		return api.Request{Kind: 2, Reply: longLine, Close: true}, 2048
	}
	l := strings.FieldsFunc(strings.TrimSuffix(b[:at], "\r"), func(c rune) bool { return c == ' ' })
	if len(l) == 0 {
		return bad(noCommand), at + 1
	}
	name, l := l[0], l[1:]
	r, ok := rowOf(name)
	off := r.noreply && len(l) > 0 && l[len(l)-1] == "noreply"
	if off {
		l = l[:len(l)-1]
	}
	if !ok || len(l) < r.least || len(l) > r.most {
		return bad(noCommand), at + 1
	}
	if _, ok := modes[name]; ok {
		q, n := plainStore(name, l, b[at+1:], off)
		if q.Kind == 0 {
			return none, 0
		}
		return q, at + 1 + n
	}
	q := plainOther(name, l)
	q.Quiet = off && q.Kind != 2
	return q, at + 1
}

// plainStore is a store by the chapter's words alone; and how many bytes behind the line it has.
func plainStore(name string, l []string, behind string, off bool) (api.Request, int) {
	size, ok := number(l[3], 1073741824)
	if !ok {
		return bad(badLine), 0
	}
	n := int(size)
	flags, fine := number(l[1], mostFlags)
	exp, may := seconds(l[2])
	token, right := uint64(0), true
	if name == "cas" {
		token, right = number(l[4], mostToken)
	}
	q := first(none,
		fault{!isKey(l[0]) || !fine || !may || !right, over(badLine, n)},
		fault{n > 65536, over(tooLarge, n)})
	if q.Kind == 2 || len(behind) < n+2 {
		return q, 0
	}
	c := store(modes[name], l[0], uint32(flags), exp, behind[:n])
	if name == "cas" {
		c = cas(c, token)
	}
	q = first(do(c), fault{behind[n] != 13 || behind[n+1] != 10, bad(badData)})
	q.Quiet = off && q.Kind != 2
	return q, n + 2
}

// plainOther is a request that has no value by the chapter's words alone.
func plainOther(name string, l []string) api.Request {
	word := func(i int) string {
		if i < len(l) {
			return l[i]
		}
		return "0"
	}
	noKeys := func(l []string) bool {
		for _, key := range l {
			if !isKey(key) {
				return true
			}
		}
		return false
	}
	switch name {
	case "get", "gets", "gat", "gats":
		keys, exp, may := l, int64(0), true
		till := name[1] == 'a'
		if till {
			keys = l[1:]
			exp, may = seconds(l[0])
		}
		q := api.Request{Kind: 1, Tokens: strings.HasSuffix(name, "s")}
		for _, key := range keys {
			q.Commands = append(q.Commands, api.Command{Op: 1, Key: key, Exp: exp, HasExp: till, Recache: -1})
		}
		return first(q, fault{!may, bad(badTime)}, fault{noKeys(keys), bad(badLine)})
	case "incr", "decr":
		delta, ok := number(l[1], mostToken)
		c := up(l[0], delta)
		c.Down = name == "decr"
		return first(do(c), fault{!isKey(l[0]), bad(badLine)}, fault{!ok, bad(badDelta)})
	case "touch":
		exp, may := seconds(l[1])
		return first(do(touch(l[0], exp)), fault{!isKey(l[0]), bad(badLine)}, fault{!may, bad(badTime)})
	case "delete":
		return first(do(remove(l[0])), fault{!isKey(l[0]) || word(1) != "0", bad(badLine)})
	case "flush_all":
		exp, may := seconds(word(0))
		return first(do(flush(exp)), fault{!may, bad(badTime)})
	case "version":
		return api.Request{Kind: 3}
	case "verbosity":
		return api.Request{Kind: 4}
	case "stats":
		return api.Request{Kind: 5, Arg: strings.Join(l, "?")}
	}
	return api.Request{Kind: 6, Close: true}
}

// tails are what may stand behind a request.
var tails = []string{"x", "\n", "\r\n", " \r\n", "\x00\xff", "noreply\r\n", "get a\r\n", "set k 1 0 2\r\nab\r\n", strings.Repeat("y", 2100), strings.Repeat("\r\n", 4000)}

// parses holds what Parse makes of b, and what follows of it.
func parses(t *testing.T, b string, want api.Request, n int) {
	t.Helper()
	holds(t, b, want, n)
	if want.Kind == 0 {
		return
	}
	for _, tail := range tails {
		holds(t, b[:n]+tail, want, n)
	}
	for m := range n {
		// Of a long value not each beginning: those of the line, and the last ones.
		if m < 2100 || m > n-10 {
			holds(t, b[:m], none, 0)
		}
	}
}

// holds holds what Parse makes of b.
func holds(t *testing.T, b string, want api.Request, n int) {
	t.Helper()
	q, m := text.Parse(b)
	if !reflect.DeepEqual(q, want) || m != n {
		t.Fatalf("T1: Parse(%s) = %s, %d\nwant %s, %d", show(b), show(q), m, show(want), n)
	}
}

// isPlain holds what Parse makes of b by the chapter's words.
func isPlain(t *testing.T, b string) (api.Request, int) {
	t.Helper()
	want, n := plain(b)
	holds(t, b, want, n)
	return want, n
}

// line holds what Parse makes of a line, with each end that it may have, and with blanks where they do not matter.
func line(t *testing.T, s string, want api.Request) {
	t.Helper()
	parses(t, s+"\n", want, len(s)+1)
	parses(t, s+"\r\n", want, len(s)+2)
	spaced := "  " + strings.ReplaceAll(s, " ", "   ") + " "
	parses(t, spaced+"\r\n", want, len(spaced)+2)
	if q, _ := plain(s + "\n"); !reflect.DeepEqual(q, want) {
		t.Fatalf("the test's own words say of %s: %s\nthe test asks for %s", show(s), show(q), show(want))
	}
}

// valued holds what Parse makes of a line that has a value behind it, which is used up.
func valued(t *testing.T, s, value string, want api.Request) {
	t.Helper()
	for _, end := range []string{"\n", "\r\n"} {
		b := s + end + value
		parses(t, b, want, len(b))
		if q, n := plain(b); !reflect.DeepEqual(q, want) || n != len(b) {
			t.Fatalf("the test's own words say of %s: %s\nthe test asks for %s", show(b), show(q), show(want))
		}
	}
}
