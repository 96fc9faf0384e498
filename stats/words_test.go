package stats_test

import (
	"fmt"
	"math"
	"slices"
	"strconv"
	"strings"
	"testing"

	"ambry/api"
	"ambry/sizes"
	"ambry/stats"
	"ambry/store"
)

const (
	now   = 1000000
	far   = 1 << 40
	month = 2592000
)

// kinds are the names of the policies.
var kinds = []string{"plain", "segmented", "adaptive", "three"}

// noStatuses are numbers that no answer's status is, but 0, of an answer to nothing.
var noStatuses = []int{0, -1, -2, -12, -13, 13, 14, 15, 16, 24, 127, 128, 255, 256, 257, 1<<16 + 1, 1 << 32, 1<<32 + 1, 1<<32 + 12, 1 - 1<<32, math.MaxInt, math.MaxInt - 1, math.MinInt, math.MinInt + 1}

// noOps are numbers that no command's Op is.
var noOps = []int{0, -1, -2, -7, 8, 9, 16, 255, 256, 257, 258, 1<<16 + 2, 1 << 32, 1<<32 + 1, 1 - 1<<32, math.MaxInt, math.MinInt, math.MinInt + 1}

// losts are numbers of dropped keys, also such as can't be.
var losts = []int{0, 1, 2, 3, 7, 1000, 1 << 31, 1<<32 + 1, math.MaxInt - 1, math.MaxInt, -1, -2, -1000, -1 << 32, math.MinInt, math.MinInt + 1}

// ofEach runs the test for each kind of policy.
func ofEach(t *testing.T, test func(t *testing.T, kind int)) {
	for kind, name := range kinds {
		t.Run(name, func(t *testing.T) { test(t, kind) })
	}
}

// row is one of the chapter's table: the name has one more of a command with this Op, and an answer with one of these statuses, if the command is so besides.
type row struct {
	name     string
	op       int
	statuses []int
	besides  func(c api.Command) bool
}

// table is the chapter's, but for the evictions.
func table() []row {
	all := []int{1, 2, 3, 4, 5, 6, 7, 8, 9, 10, 11, 12}
	always := func(api.Command) bool { return true }
	up := func(c api.Command) bool { return !c.Down }
	down := func(c api.Command) bool { return c.Down }
	cas := func(c api.Command) bool { return c.HasCas }
	return []row{
		{"cmd_get", 1, all, always},
		{"cmd_set", 2, all, always},
		{"cmd_touch", 4, all, always},
		{"cmd_flush", 6, all, always},
		{"get_hits", 1, all[:1], always},
		{"get_misses", 1, all[1:], always},
		{"delete_hits", 5, []int{9}, always},
		{"delete_misses", 5, []int{5}, always},
		{"incr_hits", 3, []int{6}, up},
		{"incr_misses", 3, []int{5}, up},
		{"decr_hits", 3, []int{6}, down},
		{"decr_misses", 3, []int{5}, down},
		{"cas_hits", 2, []int{2}, cas},
		{"cas_badval", 2, []int{4}, cas},
		{"cas_misses", 2, []int{5}, cas},
		{"touch_hits", 4, []int{8}, always},
		{"touch_misses", 4, []int{5}, always},
	}
}

// plain are stats by the chapter's words alone.
type plain struct {
	counts    map[string]uint64
	evictions uint64
}

func newPlain() *plain { return &plain{counts: map[string]uint64{}} }

func (p *plain) count(c api.Command, status, lost int) {
	if status <= 0 || status > 12 {
		return
	}
	for _, r := range table() {
		if c.Op == r.op && slices.Contains(r.statuses, status) && r.besides(c) {
			p.counts[r.name]++
		}
	}
	p.evictions += uint64(max(lost, 0))
}

func (p *plain) lines() []string {
	var l []string
	for _, r := range table() {
		l = append(l, fmt.Sprintf("STAT %s %d", r.name, p.counts[r.name]))
	}
	return append(l, fmt.Sprintf("STAT evictions %d", p.evictions))
}

// twin are stats beside what the chapter says of them.
type twin struct {
	t *testing.T
	s *stats.Stats
	p *plain
}

func newTwin(t *testing.T) *twin {
	t.Helper()
	w := &twin{t: t, s: stats.New(), p: newPlain()}
	w.same()
	return w
}

// show tells anything in not too many letters, all of which can be read.
func show(a any) string {
	s := fmt.Sprintf("%+v", a)
	if len(s) > 400 {
		s = s[:400] + " .."
	}
	return strings.Trim(strconv.Quote(s), `"`)
}

// same tells that both have counted alike.
func (w *twin) same() {
	w.t.Helper()
	if l, want := w.s.Lines(), w.p.lines(); !slices.Equal(l, want) {
		w.t.Fatalf("S1: Lines() = %q\nwant %q", l, want)
	}
}

// count counts for both; what is handed in stays.
func (w *twin) count(c api.Command, a api.Answer, lost int) {
	w.t.Helper()
	wasC, wasA := c, a
	w.s.Count(c, a, lost)
	w.p.count(c, a.Status, lost)
	if c != wasC || a != wasA {
		w.t.Fatalf("R1: Count of %s with %s left %s and %s", show(wasC), show(wasA), show(c), show(a))
	}
	if l, want := w.s.Lines(), w.p.lines(); !slices.Equal(l, want) {
		w.t.Fatalf("S1: behind Count of %s with %s and lost %d\nLines() = %q\nwant      %q", show(c), show(a), lost, l, want)
	}
}

func (w *twin) reset() {
	w.t.Helper()
	w.s.Reset()
	w.p = newPlain()
	w.same()
}

// mixed lets all counts be above 0.
func (w *twin) mixed() {
	w.t.Helper()
	n := 0
	for _, r := range table() {
		n++
		c := api.Command{Op: r.op}
		c.HasCas = r.besides(api.Command{HasCas: true})
		c.Down = !r.besides(api.Command{HasCas: true})
		for range n {
			w.s.Count(c, api.Answer{Status: r.statuses[0]}, 3)
			w.p.count(c, r.statuses[0], 3)
		}
	}
	w.same()
	for _, line := range w.s.Lines() {
		if strings.HasSuffix(line, " 0") {
			w.t.Fatalf("S1: behind all kinds of commands and answers: %q", line)
		}
	}
}

// tells holds the lines: the counts that are named with their numbers, 0 of all others.
func tells(t *testing.T, s *stats.Stats, want string) {
	t.Helper()
	counts := map[string]string{}
	l := strings.Fields(want)
	for i := 0; i+1 < len(l); i += 2 {
		counts[l[i]] = l[i+1]
	}
	var lines []string
	for _, line := range newPlain().lines() {
		name := strings.Fields(line)[1]
		n := counts[name]
		if n == "" {
			n = "0"
		}
		lines = append(lines, "STAT "+name+" "+n)
		delete(counts, name)
	}
	if len(counts) > 0 || len(l)%2 > 0 {
		t.Fatalf("the test asks for what is no count: %q", want)
	}
	if got := s.Lines(); !slices.Equal(got, lines) {
		t.Fatalf("S1: Lines() = %q\nwant      %q", got, lines)
	}
}

// small is so many pages of four classes, 64, 128, 256 and 512 bytes, of which a page holds 8, 4, 2 and 1.
func small(pages, kind int) api.Config {
	return api.Config{Pages: pages, Page: 512, Factor: 200, Policy: kind}
}

// newStore is a store that there can be.
func newStore(t *testing.T, c api.Config) *store.Store {
	t.Helper()
	s, e := store.New(c)
	if s == nil || e != api.OK {
		t.Fatalf("Q1: New(%+v): %v", c, e)
	}
	return s
}

// slabLines are the report of classes by the chapter's words, from where the store's items lie; these pages are closed.
func slabLines(s *store.Store, c api.Config, closed map[int]bool) []string {
	inPage := map[int]int{}
	for _, x := range s.Items() {
		inPage[s.Chunk(x.Key)/4096]++
	}
	chunks, _ := sizes.New(c.Page, c.Factor)
	var l []string
	total := 0
	for class := range chunks {
		pages := s.Pages(class)
		if len(pages) == 0 {
			continue
		}
		used, free := 0, 0
		for _, page := range pages {
			used += inPage[page]
			if !closed[page] {
				free += c.Page/chunks[class] - inPage[page]
			}
		}
		total += len(pages)
		l = append(l, fmt.Sprintf("STAT %d:pages %d", class, len(pages)), fmt.Sprintf("STAT %d:used %d", class, used), fmt.Sprintf("STAT %d:free %d", class, free))
	}
	return append(l, fmt.Sprintf("STAT total_pages %d", total))
}

// command is one of the Op that tells no Recache.
func command(op int, key string) api.Command { return api.Command{Op: op, Key: key, Recache: -1} }

// setting stores n bytes, whatever is there.
func setting(key string, n int) api.Command {
	c := command(api.OpStore, key)
	c.Value = strings.Repeat("v", n)
	return c
}

func flushing(exp int64) api.Command { return api.Command{Op: api.OpFlush, Exp: exp} }

// name is a short key of the number.
func name(i int) string { return "k" + string([]byte{byte('A' + i/16), byte('A' + i%16)}) }
