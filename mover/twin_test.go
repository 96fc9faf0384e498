package mover_test

import (
	"cmp"
	"fmt"
	"math"
	"slices"
	"strconv"
	"strings"
	"testing"

	"ambry/api"
	"ambry/model"
	"ambry/mover"
	"ambry/sizes"
	"ambry/store"
)

const (
	now   = 1000000
	far   = 1 << 40
	month = 2592000
)

// kinds are the names of the policies.
var kinds = []string{"plain", "segmented", "adaptive", "three"}

// noClasses are numbers of classes that no mover counts.
var noClasses = []int{-1, -2, -63, -64, 63, 64, 65, 127, 1024, 1 << 32, 1<<32 + 1, -1 << 32, math.MaxInt, math.MinInt, math.MinInt + 1}

// noMoments are those that now may not be.
var noMoments = []int64{0, -1, -2, -far, far + 1, far + 2, math.MaxInt64, math.MinInt64, math.MinInt64 + 1}

func isMoment(at int64) bool { return at >= 1 && at <= far }

// small is so many pages of four classes, 64, 128, 256 and 512 bytes, of which a page holds 8, 4, 2 and 1.
func small(pages, kind int) api.Config {
	return api.Config{Pages: pages, Page: 512, Factor: 200, Policy: kind}
}

// ofEach runs the test for each kind of policy.
func ofEach(t *testing.T, test func(t *testing.T, kind int)) {
	for kind, name := range kinds {
		t.Run(name, func(t *testing.T) { test(t, kind) })
	}
}

// plain is a mover by the chapter's words alone.
type plain struct {
	every, turn int
	lacked      map[int]int
	under       bool
	page, class int // if one is under way
}

func newPlain(every int) *plain { return &plain{every: every, lacked: map[int]int{}} }

func (p *plain) note(class int) {
	if class >= 0 && class <= 62 {
		p.lacked[class]++
	}
}

func (p *plain) moving() (int, int) {
	if p.under {
		return p.page, p.class
	}
	return -1, -1
}

func (p *plain) step(s *store.Store, now int64) (string, bool) {
	if p.under {
		if s.Left(p.page) == 0 {
			s.Move(p.page, p.class)
			p.under = false
			return "", false
		}
		return s.Drain(p.page, now)
	}
	p.turn = (p.turn + 1) % p.every
	if p.turn > 0 {
		return "", false
	}
	lacked := p.lacked
	p.lacked = map[int]int{}
	recipient, donor := picks(s, lacked)
	if pages := s.Pages(donor); lacked[recipient] >= 1 && len(pages) >= 2 {
		p.under, p.page, p.class = true, slices.Max(pages), recipient
		s.Close(p.page)
	}
	return "", false
}

// picks are the recipient and the donor: those that come first, if all classes stand in order.
func picks(s *store.Store, lacked map[int]int) (int, int) {
	var l []int
	for class := range s.Classes() {
		l = append(l, class)
	}
	slices.SortFunc(l, func(a, b int) int { return cmp.Or(lacked[b]-lacked[a], a-b) })
	recipient, others := l[0], l[1:]
	slices.SortFunc(others, func(a, b int) int { return cmp.Or(len(s.Pages(b))-len(s.Pages(a)), b-a) })
	return recipient, others[0]
}

// twin is a mover and its store, beside what the chapter says of it with a store of its own, and a model, from which is lost what is told as dropped.
type twin struct {
	t      *testing.T
	m      *mover.Mover
	s      *store.Store
	p      *plain
	other  *store.Store
	model  api.State
	now    int64
	config api.Config
	steps  int  // of the page that is under way, so far
	chunks int  // that it has
	quick  bool // what all have is not told at each call
}

func newTwin(t *testing.T, c api.Config, every int) *twin {
	t.Helper()
	s, e := store.New(c)
	other, _ := store.New(c)
	m := mover.New(every)
	if s == nil || e != api.OK || m == nil {
		t.Fatalf("R1: New(%d) = %v, with a store of %+v", every, m, c)
	}
	return &twin{t: t, m: m, s: s, p: newPlain(every), other: other, now: now, config: c}
}

// show tells anything in not too many letters, all of which can be read.
func show(a any) string {
	s := fmt.Sprintf("%+v", a)
	if len(s) > 400 {
		s = s[:400] + " .."
	}
	return strings.Trim(strconv.Quote(s), `"`)
}

// do asks the store, as commands between the steps do.
func (w *twin) do(c api.Command) (api.Answer, []string) {
	w.t.Helper()
	a, dropped := w.s.Do(w.now, c)
	want, wantDropped := w.other.Do(w.now, c)
	if a != want || !slices.Equal(dropped, wantDropped) {
		w.t.Fatalf("R2: %s is answered %s, %q; of the store that the chapter's words worked on %s, %q", show(c), show(a), dropped, show(want), wantDropped)
	}
	for _, key := range dropped {
		w.lose(key, w.now)
	}
	w.follow(c, a)
	if !w.quick {
		w.same()
	}
	return a, dropped
}

// follow holds the answer against the model's.
func (w *twin) follow(c api.Command, a api.Answer) {
	w.t.Helper()
	s, want := model.Apply(w.model, w.now, c, w.config.Page-40)
	if a.Status == api.NoMemory {
		w.model, _ = model.Apply(w.model, w.now, command(api.OpLook, c.Key), 0)
		return
	}
	if a != want {
		w.t.Fatalf("R2: %s at %d is answered %s; the model says %s", show(c), w.now, show(a), show(want))
	}
	if a.Status != 0 {
		w.model = s
	}
}

// lose drops a key from the model, which is to have its item.
func (w *twin) lose(key string, at int64) {
	w.t.Helper()
	_, a := model.Apply(w.model, at, command(api.OpLook, key), 0)
	s, was := model.Drop(w.model, key)
	if !was || a.Status != api.Hit && w.model.Flush == 0 {
		w.t.Fatalf("R2: %q is told as dropped at %d; the model has %s", key, at, show(w.model))
	}
	w.model = s
}

// stepAt is one step, held against the chapter.
func (w *twin) stepAt(at int64) (string, bool) {
	w.t.Helper()
	page, class := w.m.Moving()
	left, all := w.s.Left(page), w.granted()
	key, ok := w.m.Step(w.s, at)
	want, wantOK := w.p.step(w.other, at)
	if key != want || ok != wantOK {
		w.t.Fatalf("R2: Step at %d = %q, %v; want %q, %v", at, key, ok, want, wantOK)
	}
	if ok {
		w.lose(key, at)
	}
	if key != "" && (!ok || page < 0) {
		w.t.Fatalf("R2: Step at %d = %q, %v, of page %d", at, key, ok, page)
	}
	if n := w.granted(); n != all {
		w.t.Fatalf("R2: there were %d pages, there are %d", all, n)
	}
	if page < 0 {
		w.sets()
	} else {
		w.goes(page, class, left, at)
	}
	if !w.quick {
		w.same()
	}
	return key, ok
}

func (w *twin) step() (string, bool) {
	w.t.Helper()
	return w.stepAt(w.now)
}

// sets holds what is so at once, if a page is under way now: nobody gets a chunk of it, and it is still the donor's.
func (w *twin) sets() {
	w.t.Helper()
	page, class := w.m.Moving()
	if page < 0 {
		return
	}
	from := w.classOf(page)
	l, _ := sizes.New(w.config.Page, w.config.Factor)
	w.steps, w.chunks = 0, sizes.Per(l, from, w.config.Page)
	if from < 0 || from == class || slices.Max(w.s.Pages(from)) != page {
		w.t.Fatalf("R2: page %d, of class %d, is under way to %d", page, from, class)
	}
}

// goes holds that a step has brought the page that was under way on by one chunk, or to its class.
func (w *twin) goes(page, class, left int, at int64) {
	w.t.Helper()
	if isMoment(at) || left == 0 {
		w.steps++
	}
	if w.steps > w.chunks+1 {
		w.t.Fatalf("R2: page %d, of %d chunks, has had %d steps", page, w.chunks, w.steps)
	}
	is, to := w.m.Moving()
	switch {
	case left == 0:
		if is != -1 || to != -1 || w.classOf(page) != class {
			w.t.Fatalf("R2: page %d is empty, and was under way to %d: it is %d's now, Moving() = %d, %d", page, class, w.classOf(page), is, to)
		}
	case is != page || to != class || w.classOf(page) == class:
		w.t.Fatalf("R2: page %d had %d items, and was under way to %d: it is %d's now, Moving() = %d, %d", page, left, class, w.classOf(page), is, to)
	case isMoment(at) && w.s.Left(page) != left-1, !isMoment(at) && w.s.Left(page) != left:
		w.t.Fatalf("R2: a step at %d leaves %d items of %d", at, w.s.Left(page), left)
	}
}

// classOf is the class that has the page; -1, if none does.
func (w *twin) classOf(page int) int {
	for class := range w.s.Classes() {
		if slices.Contains(w.s.Pages(class), page) {
			return class
		}
	}
	return -1
}

// granted is how many pages all classes have.
func (w *twin) granted() int {
	n := 0
	for class := range w.s.Classes() {
		pages, _, _ := w.s.Counts(class)
		n += pages
	}
	return n
}

// same tells that all are alike in what they have.
func (w *twin) same() {
	w.t.Helper()
	page, class := w.m.Moving()
	if p, c := w.p.moving(); page != p || class != c {
		w.t.Fatalf("R1: Moving() = %d, %d; want %d, %d", page, class, p, c)
	}
	for c := -1; c <= 63; c++ {
		if n := w.m.Lacks(c); n != w.p.lacked[c] {
			w.t.Fatalf("R1: Lacks(%d) = %d; want %d", c, n, w.p.lacked[c])
		}
	}
	for p := range w.config.Pages {
		if n, want := w.s.Left(p), w.other.Left(p); n != want {
			w.t.Fatalf("R2: page %d has %d items; want %d", p, n, want)
		}
	}
	for c := range w.s.Classes() {
		a, b, row := w.s.Counts(c)
		wantA, wantB, wantRow := w.other.Counts(c)
		if a != wantA || b != wantB || row != wantRow || !slices.Equal(w.s.Pages(c), w.other.Pages(c)) {
			w.t.Fatalf("R2: Counts(%d) = %d, %d, %d of pages %d; want %d, %d, %d of %d", c, a, b, row, w.s.Pages(c), wantA, wantB, wantRow, w.other.Pages(c))
		}
	}
	w.sameItems()
}

// sameItems tells that the items are alike, and that just those are lost that were told.
func (w *twin) sameItems() {
	w.t.Helper()
	l := w.s.Items()
	if want := w.other.Items(); !slices.Equal(l, want) {
		w.t.Fatalf("R2: there are %s\nwant %s", show(l), show(want))
	}
	for _, x := range l {
		if n, want := w.s.Chunk(x.Key), w.other.Chunk(x.Key); n != want {
			w.t.Fatalf("R2: %q is in the chunk %d; want %d", x.Key, n, want)
		}
	}
	l = w.living(l)
	if want := w.living(w.model.Items); !slices.Equal(l, want) || w.s.Cas() != w.model.Cas || w.s.Flush() != w.model.Flush {
		w.t.Fatalf("R2: there are %s, Cas %d, Flush %d\nthe model has %s, %d, %d", show(l), w.s.Cas(), w.s.Flush(), show(want), w.model.Cas, w.model.Flush)
	}
}

// living are those of the items that are not gone at now.
func (w *twin) living(l []api.Item) []api.Item {
	return slices.DeleteFunc(slices.Clone(l), func(x api.Item) bool { return x.Exp != 0 && x.Exp <= w.now })
}

// note notes each of the classes.
func (w *twin) note(classes ...int) {
	w.t.Helper()
	for _, class := range classes {
		w.m.Note(class)
		w.p.note(class)
	}
	if !w.quick {
		w.same()
	}
}

// quiet is one step that tells nothing.
func (w *twin) quiet() {
	w.t.Helper()
	if key, ok := w.step(); key != "" || ok {
		w.t.Fatalf("R2: Step = %q, %v; want nothing, false", key, ok)
	}
}

// drops are steps that tell these keys, one letter each.
func (w *twin) drops(keys string) {
	w.t.Helper()
	for _, want := range strings.Split(keys, "") {
		if key, ok := w.step(); key != want || !ok {
			w.t.Fatalf("R2: Step = %q, %v; want %q, true", key, ok, want)
		}
	}
}

// moving holds which page is under way, and to which class.
func (w *twin) moving(page, class int) {
	w.t.Helper()
	if p, c := w.m.Moving(); p != page || c != class {
		w.t.Fatalf("R1: Moving() = %d, %d; want %d, %d", p, c, page, class)
	}
}

// lacks holds how often the classes from 0 on lacked.
func (w *twin) lacks(counts ...int) {
	w.t.Helper()
	for class, want := range counts {
		if n := w.m.Lacks(class); n != want {
			w.t.Fatalf("R1: Lacks(%d) = %d; want %d", class, n, want)
		}
	}
}

// has holds that these pages are the class's.
func (w *twin) has(class int, pages ...int) {
	w.t.Helper()
	if l := w.s.Pages(class); !slices.Equal(l, pages) {
		w.t.Fatalf("R2: Pages(%d) = %d; want %d", class, l, pages)
	}
}

// counts holds what a class has.
func (w *twin) counts(class, pages, used, row int) {
	w.t.Helper()
	if a, b, c := w.s.Counts(class); a != pages || b != used || c != row {
		w.t.Fatalf("R2: Counts(%d) = %d, %d, %d; want %d, %d, %d", class, a, b, c, pages, used, row)
	}
}

// at holds that the key's item is in this chunk; -1: it has none.
func (w *twin) at(key string, chunk int) {
	w.t.Helper()
	if n := w.s.Chunk(key); n != chunk {
		w.t.Fatalf("R2: Chunk(%q) = %d; want %d", key, n, chunk)
	}
}

// is does the command, and holds that this status is its answer's, and that just these keys are dropped.
func (w *twin) is(c api.Command, status int, dropped ...string) {
	w.t.Helper()
	a, l := w.do(c)
	if a.Status != status || !slices.Equal(l, dropped) {
		w.t.Fatalf("R2: %s is answered %s, %q; want %d, %q", show(c), show(a), l, status, dropped)
	}
}

// set stores n bytes, and holds that just these keys are dropped.
func (w *twin) set(key string, n int, dropped ...string) {
	w.t.Helper()
	w.is(setting(key, n), api.Stored, dropped...)
}

// fill stores small values under all of the keys, one letter each; none is dropped.
func (w *twin) fill(keys string) {
	w.t.Helper()
	for _, key := range strings.Split(keys, "") {
		w.set(key, 1)
	}
}

// drop deletes the items of all of the keys.
func (w *twin) drop(keys string) {
	w.t.Helper()
	for _, key := range strings.Split(keys, "") {
		w.is(command(api.OpDelete, key), api.Deleted)
	}
}

// get holds that the items of all of the keys are there.
func (w *twin) get(keys string) {
	w.t.Helper()
	for _, key := range strings.Split(keys, "") {
		w.is(command(api.OpGet, key), api.Hit)
	}
}

// keys holds that just these, one letter each, have items.
func (w *twin) keys(keys string) {
	w.t.Helper()
	var l []string
	for _, x := range w.s.Items() {
		l = append(l, x.Key)
	}
	if s := strings.Join(l, ""); s != keys {
		w.t.Fatalf("R2: the keys are %q; want %q", s, keys)
	}
}

// deal lets the classes have these pages, each empty: of each page its class is told. No page is to be granted yet.
func (w *twin) deal(classes ...int) {
	w.t.Helper()
	quick := w.quick
	w.quick = true
	for page := range classes {
		w.set(name(page), w.config.Page-40-3)
	}
	for page := range classes {
		w.is(command(api.OpDelete, name(page)), api.Deleted)
	}
	for page, class := range classes {
		for _, s := range []*store.Store{w.s, w.other} {
			if s.Close(page) != api.OK || s.Move(page, class) != api.OK {
				w.t.Fatalf("Q4: page %d can't be moved to %d", page, class)
			}
		}
	}
	w.quick = quick
	w.same()
}

// name is a short key of the number.
func name(i int) string { return "k" + string([]byte{byte('A' + i/16), byte('A' + i%16)}) }

// command is one of the Op that tells no Recache.
func command(op int, key string) api.Command { return api.Command{Op: op, Key: key, Recache: -1} }

// setting stores n bytes, whatever is there.
func setting(key string, n int) api.Command {
	c := command(api.OpStore, key)
	c.Value = strings.Repeat("v", n)
	return c
}

// till is the command with an end.
func till(c api.Command, exp int64) api.Command {
	c.Exp, c.HasExp = exp, true
	return c
}

func flushing(exp int64) api.Command { return api.Command{Op: api.OpFlush, Exp: exp} }
