package text_test

import (
	"fmt"
	"math"
	"reflect"
	"slices"
	"strings"
	"testing"

	"ambry/api"
	"ambry/text"
)

// outcomes are the lines of the chapter's table.
var outcomes = map[int]string{
	2: "STORED", 3: "NOT_STORED", 4: "EXISTS", 5: "NOT_FOUND", 7: "CLIENT_ERROR cannot increment or decrement non-numeric value",
	8: "TOUCHED", 9: "DELETED", 10: "OK", 11: "SERVER_ERROR object too large for cache", 12: "SERVER_ERROR out of memory storing object",
}

// statuses are all, and numbers that are none.
var statuses = []int{1, 2, 3, 4, 5, 6, 7, 8, 9, 10, 11, 12, 0, -1, -2, 13, 14, 100, 255, 256, 258, 1<<32 + 2, math.MaxInt, math.MinInt}

// kinds are all, and numbers that are none.
var kinds = []int{0, 1, 2, 3, 4, 5, 6, 7, 8, -1, -2, 9, 255, 256, 257, 1<<32 + 1, 1<<32 + 2, math.MaxInt, math.MinInt}

// ops are all, and numbers that are none.
var ops = []int{1, 2, 3, 4, 5, 6, 7, 0, -1, 8, 255, 257, 1<<32 + 1, math.MaxInt, math.MinInt}

// plainReply is Reply by the chapter's words alone.
func plainReply(r api.Request, l []api.Answer) string {
	switch r.Kind {
	case 2:
		return r.Reply + "\r\n"
	case 3:
		return "VERSION 1\r\n"
	case 4:
		return map[bool]string{true: "", false: "OK\r\n"}[r.Quiet]
	}
	if r.Kind != 1 || len(r.Commands) == 0 || len(l) < len(r.Commands) {
		return ""
	}
	if r.Commands[0].Op == 1 {
		s := ""
		for _, a := range l {
			if a.Status != 1 {
				continue
			}
			token := ""
			if r.Tokens {
				token = fmt.Sprintf(" %d", a.Item.Cas)
			}
			s += fmt.Sprintf("VALUE %s %d %d%s\r\n%s\r\n", a.Item.Key, a.Item.Flags, len(a.Item.Value), token, a.Item.Value)
		}
		return s + "END\r\n"
	}
	if r.Quiet {
		return ""
	}
	if l[0].Status == 6 {
		return fmt.Sprintf("%d\r\n", l[0].Number)
	}
	if s, ok := outcomes[l[0].Status]; ok {
		return s + "\r\n"
	}
	return "ERROR\r\n"
}

// copyOf is the request in memory of its own.
func copyOf(r api.Request) api.Request {
	r.Commands, r.Flags = slices.Clone(r.Commands), slices.Clone(r.Flags)
	return r
}

// replies holds what Reply tells, twice, and that all that is handed in stays.
func replies(t *testing.T, r api.Request, l []api.Answer, want string) {
	t.Helper()
	wasR, wasL := copyOf(r), slices.Clone(l)
	for range 2 {
		if got := text.Reply(r, l); got != want {
			t.Fatalf("T2: Reply(%s, %s) = %s\nwant %s", show(r), show(l), show(got), show(want))
		}
	}
	if !reflect.DeepEqual(r, wasR) || !slices.Equal(l, wasL) {
		t.Fatalf("R1: Reply of %s and %s left %s and %s", show(wasR), show(wasL), show(r), show(l))
	}
	if got := plainReply(r, l); got != want {
		t.Fatalf("the test's own words say of %s and %s: %s\nthe test asks for %s", show(r), show(l), show(got), show(want))
	}
}

// hit is an answer that has an item.
func hit(key, value string, flags uint32, token uint64) api.Answer {
	return api.Answer{Status: 1, Item: api.Item{Key: key, Value: value, Flags: flags, Cas: token}}
}

func status(n int) api.Answer { return api.Answer{Status: n} }

func TestReplyToGet(t *testing.T) {
	one := do(get("k"))
	replies(t, one, []api.Answer{hit("k", "ab", 1, 7)}, "VALUE k 1 2\r\nab\r\nEND\r\n")
	replies(t, tokens(one), []api.Answer{hit("k", "ab", 1, 7)}, "VALUE k 1 2 7\r\nab\r\nEND\r\n")
	replies(t, one, []api.Answer{status(5)}, "END\r\n")
	replies(t, tokens(one), []api.Answer{status(5)}, "END\r\n")
	replies(t, one, []api.Answer{hit("k", "", 0, 0)}, "VALUE k 0 0\r\n\r\nEND\r\n")
	replies(t, tokens(one), []api.Answer{hit("k", "", 0, 0)}, "VALUE k 0 0 0\r\n\r\nEND\r\n")
	replies(t, tokens(one), []api.Answer{hit("k", "a\r\n\x00b", mostFlags, mostToken)}, "VALUE k 4294967295 5 18446744073709551615\r\na\r\n\x00b\r\nEND\r\n")
	// No reply being asked for changes nothing here.
	replies(t, quiet(one), []api.Answer{hit("k", "ab", 1, 7)}, "VALUE k 1 2\r\nab\r\nEND\r\n")
	replies(t, quiet(tokens(one)), []api.Answer{status(5)}, "END\r\n")
	// It is the item's key that is told, also if there is none.
	replies(t, one, []api.Answer{hit("other", "v", 0, 0)}, "VALUE other 0 1\r\nv\r\nEND\r\n")
	replies(t, one, []api.Answer{hit("", "v", 0, 0)}, "VALUE  0 1\r\nv\r\nEND\r\n")
	replies(t, do(getTill("k", 5)), []api.Answer{hit("k", "v", 0, 0)}, "VALUE k 0 1\r\nv\r\nEND\r\n")
}

// Answers that are no hits, between hits.
func TestReplyToGets(t *testing.T) {
	a, b := hit("a", "1", 1, 5), hit("b", "22", 2, 6)
	many := do(get("a"), get("x"), get("b"), get("y"))
	replies(t, many, []api.Answer{a, status(5), b, status(5)}, "VALUE a 1 1\r\n1\r\nVALUE b 2 2\r\n22\r\nEND\r\n")
	replies(t, tokens(many), []api.Answer{a, status(5), b, status(5)}, "VALUE a 1 1 5\r\n1\r\nVALUE b 2 2 6\r\n22\r\nEND\r\n")
	replies(t, many, []api.Answer{status(5), b, status(5), a}, "VALUE b 2 2\r\n22\r\nVALUE a 1 1\r\n1\r\nEND\r\n")
	replies(t, many, []api.Answer{status(5), status(5), status(5), status(5)}, "END\r\n")
	replies(t, many, []api.Answer{a, a, a, a}, strings.Repeat("VALUE a 1 1\r\n1\r\n", 4)+"END\r\n")
	for _, n := range statuses[1:] {
		no := a
		no.Status = n
		replies(t, many, []api.Answer{no, b, no, no}, "VALUE b 2 2\r\n22\r\nEND\r\n")
		replies(t, many, []api.Answer{b, no, no, b}, "VALUE b 2 2\r\n22\r\nVALUE b 2 2\r\n22\r\nEND\r\n")
	}
	// The first command says what kind of reply it is, whatever the others are.
	mixed := do(get("a"), remove("a"))
	replies(t, mixed, []api.Answer{a, status(9)}, "VALUE a 1 1\r\n1\r\nEND\r\n")
	replies(t, mixed, []api.Answer{status(5), b}, "VALUE b 2 2\r\n22\r\nEND\r\n")
	mixed = do(remove("a"), get("a"))
	replies(t, mixed, []api.Answer{status(9), a}, "DELETED\r\n")
	replies(t, quiet(mixed), []api.Answer{status(9), a}, "")
	// Of each answer, also if there are more of them than commands.
	replies(t, do(get("a")), []api.Answer{a, status(5), b}, "VALUE a 1 1\r\n1\r\nVALUE b 2 2\r\n22\r\nEND\r\n")
	replies(t, do(remove("a")), []api.Answer{status(5), status(9)}, "NOT_FOUND\r\n")
}

// Without commands, or with fewer answers than these, there is nothing to tell.
func TestReplyToTooLittle(t *testing.T) {
	for _, op := range ops {
		for n := range 4 {
			r := api.Request{Kind: 1}
			for range n {
				r.Commands = append(r.Commands, api.Command{Op: op, Key: "k", Recache: -1})
			}
			for have := range 6 {
				var l []api.Answer
				for range have {
					l = append(l, hit("k", "v", 0, 0))
				}
				want := ""
				if n > 0 && have >= n && op == 1 {
					want = strings.Repeat("VALUE k 0 1\r\nv\r\n", have) + "END\r\n"
				} else if n > 0 && have >= n {
					want = "ERROR\r\n"
				}
				replies(t, r, l, want)
				r.Commands = append([]api.Command{}, r.Commands...)
				replies(t, r, append([]api.Answer{}, l...), want)
			}
		}
	}
}

// Each status, of each command, quiet and not, with tokens and not.
func TestReplyToStatuses(t *testing.T) {
	for _, op := range ops[1:] {
		for _, n := range statuses {
			for flags := range 4 {
				r := do(api.Command{Op: op, Key: "k", Recache: -1})
				r.Quiet, r.Tokens = flags%2 == 1, flags/2 == 1
				a := hit("k", "17", 3, 9)
				a.Status, a.Number = n, 17
				want, ok := outcomes[n]
				if !ok {
					want = "ERROR"
				}
				if n == 6 {
					want = "17"
				}
				want += "\r\n"
				if r.Quiet {
					want = ""
				}
				replies(t, r, []api.Answer{a}, want)
			}
		}
	}
	for word, n := range someNumbers {
		if len(word) > 1 && word[0] == '0' {
			continue
		}
		replies(t, do(up("k", 1)), []api.Answer{{Status: 6, Number: n}}, word+"\r\n")
	}
}

// Each kind, quiet and not, with commands and without, and whatever else stands in the request.
func TestReplyToKinds(t *testing.T) {
	for _, kind := range kinds {
		for n := range 16 {
			r := api.Request{Kind: kind, Quiet: n%2 == 1, Tokens: n/2%2 == 1, Reply: "why", Arg: "arg", Skip: 5, Close: true, Meta: "mg", Flags: []string{"v"}, Word: "w"}
			if n/4%2 == 1 {
				r.Commands = []api.Command{remove("k")}
			}
			var l []api.Answer
			if n/8 == 1 {
				l = []api.Answer{status(9)}
			}
			want := ""
			switch {
			case kind == 1 && n%2 == 0 && n/4 == 3:
				want = "DELETED\r\n"
			case kind == 2:
				want = "why\r\n"
			case kind == 3:
				want = "VERSION 1\r\n"
			case kind == 4 && n%2 == 0:
				want = "OK\r\n"
			}
			replies(t, r, l, want)
		}
		if kind != 2 && kind != 3 && kind != 4 {
			replies(t, api.Request{Kind: kind}, nil, "")
		}
	}
	for _, why := range []string{"", "ERROR", badLine, "any\r\ntext\x00"} {
		replies(t, bad(why), nil, why+"\r\n")
		replies(t, quiet(bad(why)), []api.Answer{status(1)}, why+"\r\n")
	}
}

// What is told of lines that were read.
func TestReplyToLines(t *testing.T) {
	for _, x := range []struct {
		b    string
		l    []api.Answer
		want string
	}{
		{"set k 1 0 2\r\nab\r\n", []api.Answer{status(2)}, "STORED\r\n"},
		{"set k 1 0 2 noreply\r\nab\r\n", []api.Answer{status(2)}, ""},
		{"set k 1 0 2 noreply\r\nab\r\n", []api.Answer{status(11)}, ""},
		{"add k 1 0 2\r\nab\r\n", []api.Answer{status(3)}, "NOT_STORED\r\n"},
		{"cas k 1 0 2 3\r\nab\r\n", []api.Answer{status(4)}, "EXISTS\r\n"},
		{"cas k 1 0 2 3\r\nab\r\n", []api.Answer{status(5)}, "NOT_FOUND\r\n"},
		{"incr k 2\r\n", []api.Answer{{Status: 6, Number: 44}}, "44\r\n"},
		{"decr k 2 noreply\r\n", []api.Answer{{Status: 6, Number: 44}}, ""},
		{"incr k 2\r\n", []api.Answer{status(7)}, "CLIENT_ERROR cannot increment or decrement non-numeric value\r\n"},
		{"touch k 2\r\n", []api.Answer{status(8)}, "TOUCHED\r\n"},
		{"delete k 0\r\n", []api.Answer{status(9)}, "DELETED\r\n"},
		{"flush_all\r\n", []api.Answer{status(10)}, "OK\r\n"},
		{"set k 1 0 2\r\nab\r\n", []api.Answer{status(11)}, "SERVER_ERROR object too large for cache\r\n"},
		{"set k 1 0 2\r\nab\r\n", []api.Answer{status(12)}, "SERVER_ERROR out of memory storing object\r\n"},
		{"get a b\r\n", []api.Answer{status(5), hit("b", "x", 0, 3)}, "VALUE b 0 1\r\nx\r\nEND\r\n"},
		{"gats 5 a b\r\n", []api.Answer{hit("a", "", 1, 2), hit("b", "x", 0, 3)}, "VALUE a 1 0 2\r\n\r\nVALUE b 0 1 3\r\nx\r\nEND\r\n"},
		{"version\r\n", nil, "VERSION 1\r\n"},
		{"verbosity 1\r\n", nil, "OK\r\n"},
		{"verbosity 1 noreply\r\n", nil, ""},
		{"stats\r\n", nil, ""},
		{"quit\r\n", nil, ""},
		{"get", nil, ""},
		{"set k x 0 2 noreply\r\n", nil, "CLIENT_ERROR bad command line format\r\n"},
		{"set k 1 0 65537 noreply\r\n", nil, "SERVER_ERROR object too large for cache\r\n"},
		{"set k 1 0 2 noreply\r\nabcd", nil, "CLIENT_ERROR bad data chunk\r\n"},
		{"incr k x noreply\r\n", nil, "CLIENT_ERROR invalid numeric delta argument\r\n"},
		{"touch k x noreply\r\n", nil, "CLIENT_ERROR invalid exptime argument\r\n"},
		{"nothing noreply\r\n", nil, "ERROR\r\n"},
		{strings.Repeat("x", 2048), nil, "CLIENT_ERROR line too long\r\n"},
	} {
		r, _ := text.Parse(x.b)
		replies(t, r, x.l, x.want)
	}
}

func TestReport(t *testing.T) {
	for _, x := range []struct {
		lines []string
		want  string
	}{
		{nil, "END\r\n"},
		{[]string{}, "END\r\n"},
		{[]string{""}, "\r\nEND\r\n"},
		{[]string{"STAT cmd_get 0"}, "STAT cmd_get 0\r\nEND\r\n"},
		{[]string{"b", "a", "b"}, "b\r\na\r\nb\r\nEND\r\n"},
		{[]string{"", ""}, "\r\n\r\nEND\r\n"},
		{[]string{"END", "a\r\nb", "\x00\xff"}, "END\r\na\r\nb\r\n\x00\xff\r\nEND\r\n"},
		{slices.Repeat([]string{"x"}, 5000), strings.Repeat("x\r\n", 5000) + "END\r\n"},
	} {
		was := slices.Clone(x.lines)
		for range 2 {
			if got := text.Report(x.lines); got != x.want {
				t.Errorf("T2: Report(%s) = %s, want %s", show(x.lines), show(got), show(x.want))
			}
		}
		if !slices.Equal(x.lines, was) {
			t.Errorf("R1: Report of %s left %s", show(was), show(x.lines))
		}
		// Nor is there anything behind the list's end that Report writes over.
		if len(x.lines) > 0 {
			room := append(slices.Clone(x.lines), "behind", "behind")
			text.Report(room[:len(x.lines)])
			if room[len(x.lines)] != "behind" || room[len(x.lines)+1] != "behind" {
				t.Errorf("R1: Report wrote behind the list %s", show(x.lines))
			}
		}
	}
}
