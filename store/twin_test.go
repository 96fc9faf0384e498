package store_test

import (
	"fmt"
	"math"
	"slices"
	"strconv"
	"strings"
	"testing"

	"ambry/api"
	"ambry/model"
	"ambry/store"
)

const now = 1000000

// kinds are the names of the policies.
var kinds = []string{"plain", "segmented", "adaptive", "three"}

// ops are the names of the commands.
var ops = []string{"none", "get", "store", "math", "touch", "delete", "flush", "look"}

// noPages are numbers of pages that no store has.
var noPages = []int{-1, -2, -8, 1024, 1025, 4096, 1 << 20, 1 << 32, math.MaxInt, math.MinInt, math.MinInt + 1}

// noClasses are numbers of classes that no store has.
var noClasses = []int{-1, -2, -63, 63, 64, 65, 1024, 1 << 32, math.MaxInt, math.MinInt}

// small is so many pages of four classes, 64, 128, 256 and 512 bytes, of which a page holds 8, 4, 2 and 1.
func small(pages, kind int) api.Config {
	return api.Config{Pages: pages, Page: 512, Factor: 200, Policy: kind}
}

// ofEach runs the test for each kind of policy.
func ofEach(t *testing.T, test func(t *testing.T, kind int)) {
	for kind, name := range kinds {
		t.Run(name, func(t *testing.T) { test(t, kind) })
	}
}

// twin is a store, beside what the chapters say of it, and the model, from which is lost what the store tells as dropped.
type twin struct {
	t     *testing.T
	s     *store.Store
	m     *plain
	model api.State
	now   int64
	pages int
	back  bool // its time may go back: then the model may have less, and is not asked
	quick bool // what it has is not told at each call
}

func newTwin(t *testing.T, c api.Config) *twin {
	t.Helper()
	s, e := store.New(c)
	if s == nil || e != api.OK {
		t.Fatalf("Q1: New(%+v) = %v, %d", c, s, e)
	}
	return &twin{t: t, s: s, m: newPlain(c), now: now, pages: c.Pages}
}

// show tells anything in not too many letters, all of which can be read.
func show(a any) string {
	s := fmt.Sprintf("%+v", a)
	if len(s) > 400 {
		s = s[:400] + " .."
	}
	return strings.Trim(strconv.Quote(s), `"`)
}

// do does the command, and holds it against the chapters.
func (w *twin) do(c api.Command) (api.Answer, []string) {
	w.t.Helper()
	a, dropped := w.s.Do(w.now, c)
	wantA, want := w.m.Do(w.now, c)
	if a != wantA || !slices.Equal(dropped, want) {
		w.t.Fatalf("Q2: %s at %d\nis answered %s, %q\n       want %s, %q", show(c), w.now, show(a), dropped, show(wantA), want)
	}
	told := slices.Clone(dropped)
	// What is told is the caller's: the store is not to see what is written over it (R1).
	spoil(dropped, "spoilt")
	if !w.back {
		w.follow(c, a, told)
	}
	if !w.quick {
		w.same()
	}
	return a, told
}

// lose drops a key from the model, which is to have its item.
func (w *twin) lose(key string) {
	w.t.Helper()
	_, a := model.Apply(w.model, w.now, api.Command{Op: api.OpLook, Key: key}, 0)
	s, was := model.Drop(w.model, key)
	if !was || a.Status != api.Hit && w.model.Flush == 0 {
		w.t.Fatalf("Q2: %q is told as dropped at %d; the model has %s", key, w.now, show(w.model))
	}
	w.model = s
}

// follow holds the answer against the model's.
func (w *twin) follow(c api.Command, a api.Answer, dropped []string) {
	w.t.Helper()
	for _, key := range dropped {
		if key == c.Key {
			w.t.Fatalf("Q2: %s drops its own key", show(c))
		}
		w.lose(key)
	}
	s, want := model.Apply(w.model, w.now, c, w.m.most())
	if a.Status == api.NoMemory {
		if a != (api.Answer{Status: api.NoMemory}) {
			w.t.Fatalf("Q2: %s is answered %s", show(c), show(a))
		}
		if want.Status != api.Hit && want.Status != api.Stored && want.Status != api.Counted {
			w.t.Fatalf("Q2: %s is answered NoMemory; the model says %s", show(c), show(want))
		}
		// Nothing is done, but what is gone at now goes, and what is flushed by now.
		w.model, _ = model.Apply(w.model, w.now, command(api.OpLook, c.Key), 0)
		return
	}
	if a != want {
		w.t.Fatalf("Q2: %s at %d\nis answered %s\nthe model says %s", show(c), w.now, show(a), show(want))
	}
	if a.Status != 0 {
		w.model = s
	}
}

// living are those of the items that are not gone at now.
func (w *twin) living(l []api.Item) []api.Item {
	return slices.DeleteFunc(slices.Clone(l), func(x api.Item) bool { return isGone(x, w.now) })
}

// same tells that all three are alike in what they have.
func (w *twin) same() {
	w.t.Helper()
	l := w.s.Items()
	if want := w.m.Items(); !slices.Equal(l, want) {
		w.t.Fatalf("Q3: Items() = %s\nwant %s", show(l), show(want))
	}
	for _, x := range l {
		if n, want := w.s.Chunk(x.Key), w.m.Chunk(x.Key); n != want {
			w.t.Fatalf("Q3: Chunk(%q) = %d; want %d", x.Key, n, want)
		}
	}
	if cas, flush := w.s.Cas(), w.s.Flush(); cas != w.m.cas || flush != w.m.flush {
		w.t.Fatalf("Q3: Cas() = %d, Flush() = %d; want %d, %d", cas, flush, w.m.cas, w.m.flush)
	}
	if !w.back {
		w.sameAsModel(l)
	}
	w.samePages()
	spoil(l, api.Item{Key: "spoilt"})
}

func (w *twin) sameAsModel(l []api.Item) {
	w.t.Helper()
	s := api.State{Items: l, Cas: w.s.Cas(), Flush: w.s.Flush()}
	if !model.Right(s) {
		w.t.Fatalf("Q3: it has what is not right: %s", show(s))
	}
	l = w.living(l)
	if want := w.living(w.model.Items); !slices.Equal(l, want) || s.Cas != w.model.Cas || s.Flush != w.model.Flush {
		w.t.Fatalf("Q3: it has %s, Cas %d, Flush %d\nthe model %s, %d, %d", show(l), s.Cas, s.Flush, show(want), w.model.Cas, w.model.Flush)
	}
}

func (w *twin) samePages() {
	w.t.Helper()
	if n := w.s.Classes(); n != len(w.m.sizes) {
		w.t.Fatalf("Q3: Classes() = %d; want %d", n, len(w.m.sizes))
	}
	for class := -1; class <= len(w.m.sizes); class++ {
		pages, used, row := w.s.Counts(class)
		wantPages, wantUsed, wantRow := w.m.Counts(class)
		if pages != wantPages || used != wantUsed || row != wantRow {
			w.t.Fatalf("Q3: Counts(%d) = %d, %d, %d; want %d, %d, %d", class, pages, used, row, wantPages, wantUsed, wantRow)
		}
		l := w.s.Pages(class)
		if want := w.m.pagesOf(class); !slices.Equal(l, want) {
			w.t.Fatalf("Q3: Pages(%d) = %d; want %d", class, l, want)
		}
		spoil(l, -7)
	}
	for page := -1; page <= w.pages; page++ {
		if n, want := w.s.Left(page), len(w.m.chunksOf(page)); n != want {
			w.t.Fatalf("Q4: Left(%d) = %d; want %d", page, n, want)
		}
	}
}

// told is of what a call of Q4 was answered.
func (w *twin) told(call string, page int, e, want api.Errno) api.Errno {
	w.t.Helper()
	if e != want {
		w.t.Fatalf("Q4: %s of %d = %d; want %d", call, page, e, want)
	}
	if !w.quick {
		w.same()
	}
	return e
}

func (w *twin) close(page int) api.Errno {
	w.t.Helper()
	return w.told("Close", page, w.s.Close(page), w.m.Close(page))
}

func (w *twin) open(page int) api.Errno {
	w.t.Helper()
	return w.told("Open", page, w.s.Open(page), w.m.Open(page))
}

func (w *twin) move(page, class int) api.Errno {
	w.t.Helper()
	return w.told("Move", page, w.s.Move(page, class), w.m.Move(page, class))
}

func (w *twin) drainAt(page int, at int64) (string, bool) {
	w.t.Helper()
	key, ok := w.s.Drain(page, at)
	if want, wantOK := w.m.Drain(page, at); key != want || ok != wantOK {
		w.t.Fatalf("Q4: Drain(%d, %d) = %q, %v; want %q, %v", page, at, key, ok, want, wantOK)
	}
	if ok && !w.back {
		w.lose(key)
	}
	if !w.quick {
		w.same()
	}
	return key, ok
}

func (w *twin) drain(page int) (string, bool) {
	w.t.Helper()
	return w.drainAt(page, w.now)
}

// is does the command, and holds that this status is its answer's, and that just these keys are dropped.
func (w *twin) is(c api.Command, status int, dropped ...string) api.Answer {
	w.t.Helper()
	a, l := w.do(c)
	if a.Status != status || !slices.Equal(l, dropped) {
		w.t.Fatalf("Q2: %s is answered %s, %q; want %d, %q", show(c), show(a), l, status, dropped)
	}
	return a
}

// set stores n bytes, and holds that just these keys are dropped.
func (w *twin) set(key string, n int, dropped ...string) {
	w.t.Helper()
	w.is(setting(key, n), api.Stored, dropped...)
}

// fill stores small values under all of the keys, one letter each; none is dropped.
func (w *twin) fill(keys string) {
	w.t.Helper()
	for _, key := range strings.Split(keys, "") {
		w.set(key, 1)
	}
}

// get holds that the items of all of the keys are there.
func (w *twin) get(keys string) {
	w.t.Helper()
	for _, key := range strings.Split(keys, "") {
		w.is(command(api.OpGet, key), api.Hit)
	}
}

// at holds that the key's item is in this chunk; -1: it has none.
func (w *twin) at(key string, chunk int) {
	w.t.Helper()
	if n := w.s.Chunk(key); n != chunk {
		w.t.Fatalf("Q3: Chunk(%q) = %d; want %d", key, n, chunk)
	}
}

// counts holds what a class has.
func (w *twin) counts(class, pages, used, row int) {
	w.t.Helper()
	if a, b, c := w.s.Counts(class); a != pages || b != used || c != row {
		w.t.Fatalf("Q3: Counts(%d) = %d, %d, %d; want %d, %d, %d", class, a, b, c, pages, used, row)
	}
}

// has holds that these pages are the class's.
func (w *twin) has(class int, pages ...int) {
	w.t.Helper()
	if l := w.s.Pages(class); !slices.Equal(l, pages) {
		w.t.Fatalf("Q3: Pages(%d) = %d; want %d", class, l, pages)
	}
}

// keys holds that just these, one letter each, have items.
func (w *twin) keys(keys string) {
	w.t.Helper()
	var l []string
	for _, x := range w.s.Items() {
		l = append(l, x.Key)
	}
	if s := strings.Join(l, ""); s != keys {
		w.t.Fatalf("Q3: the keys are %q; want %q", s, keys)
	}
}

// drops holds that the page's next drain tells the key.
func (w *twin) drops(page int, key string) {
	w.t.Helper()
	if k, ok := w.drain(page); k != key || !ok {
		w.t.Fatalf("Q4: Drain(%d) = %q, %v; want %q, true", page, k, ok, key)
	}
}

// drainsQuietly holds that the page's next drain tells nothing.
func (w *twin) drainsQuietly(page int) {
	w.t.Helper()
	if k, ok := w.drain(page); k != "" || ok {
		w.t.Fatalf("Q4: Drain(%d) = %q, %v; want nothing, false", page, k, ok)
	}
}

// command is one of the Op that tells no Recache.
func command(op int, key string) api.Command { return api.Command{Op: op, Key: key, Recache: -1} }

// with is the command, with a change.
func with(c api.Command, change func(c *api.Command)) api.Command {
	change(&c)
	return c
}

// storing is one of the mode, of a value.
func storing(mode int, key, value string) api.Command {
	return with(command(api.OpStore, key), func(c *api.Command) { c.Mode, c.Value = mode, value })
}

// setting stores n bytes, whatever is there.
func setting(key string, n int) api.Command { return storing(api.Set, key, strings.Repeat("v", n)) }

// till is the command with an end.
func till(c api.Command, exp int64) api.Command {
	c.Exp, c.HasExp = exp, true
	return c
}
