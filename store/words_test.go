package store_test

import (
	"maps"
	"slices"

	"ambry/api"
	"ambry/chain"
	"ambry/hash"
	"ambry/model"
	"ambry/policy"
	"ambry/sizes"
	"ambry/words"
)

const (
	far   = 1 << 40
	month = 2592000
)

// cut is a page, as the chapters tell of it.
type cut struct {
	class  int // -1: it is free
	closed bool
}

// plain is a store by the chapters' words alone: the slab's pages and rows are lists, the items stand in a map of the chunks.
type plain struct {
	page     int
	sizes    []int
	cuts     []cut
	rows     [][]int // of each class, its top ahead
	used     map[int]api.Item
	chunks   map[string]int
	table    *chain.Table // for the order of the keys alone
	policies []*policy.Policy
	cas      uint64
	flush    int64
}

func newPlain(c api.Config) *plain {
	l, _ := sizes.New(c.Page, c.Factor)
	m := &plain{
		page: c.Page, sizes: l, cuts: slices.Repeat([]cut{{class: -1}}, c.Pages), rows: make([][]int, len(l)),
		used: map[int]api.Item{}, chunks: map[string]int{}, table: chain.New(),
	}
	for range l {
		m.policies = append(m.policies, policy.New(c.Policy))
	}
	return m
}

func (m *plain) most() int { return m.page - 40 }

func (m *plain) per(class int) int { return m.page / m.sizes[class] }

// least is the least class that holds n bytes; -1, if there is none.
func (m *plain) least(n int) int {
	for class, size := range m.sizes {
		if size >= n {
			return class
		}
	}
	return -1
}

func (m *plain) classOf(chunk int) int { return m.cuts[chunk/4096].class }

// pagesOf are the class's pages, rising.
func (m *plain) pagesOf(class int) []int {
	var l []int
	for p, c := range m.cuts {
		if c.class == class && class >= 0 {
			l = append(l, p)
		}
	}
	return l
}

func (m *plain) setCap(class int) {
	m.policies[class].Cap(len(m.pagesOf(class)) * m.per(class))
}

// lay puts the page's free chunks on top of the row, the lowest one on top of all.
func (m *plain) lay(page int) {
	var l []int
	class := m.cuts[page].class
	for place := range m.per(class) {
		if _, used := m.used[4096*page+place]; !used {
			l = append(l, 4096*page+place)
		}
	}
	m.rows[class] = append(l, m.rows[class]...)
}

// alloc is the chunk on top of the class's row, or -1; what it keeps is up to who asked.
func (m *plain) alloc(class int) int {
	if len(m.rows[class]) == 0 {
		page := slices.Index(m.cuts, cut{class: -1})
		if page < 0 {
			return -1
		}
		m.cuts[page].class = class
		m.lay(page)
		m.setCap(class)
	}
	chunk := m.rows[class][0]
	m.rows[class] = m.rows[class][1:]
	return chunk
}

func (m *plain) free(chunk int) {
	delete(m.used, chunk)
	if c := m.cuts[chunk/4096]; !c.closed {
		m.rows[c.class] = append([]int{chunk}, m.rows[c.class]...)
	}
}

func (m *plain) forget(key string) {
	delete(m.chunks, key)
	m.table.Delete(key)
}

func (m *plain) out(key string) {
	chunk := m.chunks[key]
	m.free(chunk)
	m.policies[m.classOf(chunk)].Remove(chunk)
	m.forget(key)
}

func (m *plain) allOut() {
	for _, key := range m.table.Keys() {
		m.out(key)
	}
	m.flush = 0
}

func isGone(x api.Item, now int64) bool { return x.Exp > 0 && x.Exp <= now }

// goes lets a chunk's item go as a victim does: its key, if that is dropped.
func (m *plain) goes(chunk int, now int64) []string {
	x := m.used[chunk]
	m.free(chunk)
	m.policies[m.classOf(chunk)].Evict(chunk)
	m.forget(x.Key)
	if isGone(x, now) {
		return nil
	}
	return []string{x.Key}
}

func mayBe(now int64, c api.Command) bool {
	for _, e := range []int64{c.Exp, c.Vive, c.Recache} {
		if e < -far || e > far {
			return false
		}
	}
	return now >= 1 && now <= far && c.Op >= 1 && c.Op <= 7 && (c.Op == 6 || words.Key(c.Key)) &&
		c.Mode >= 0 && c.Mode <= 4 && len(c.Value) <= 65536
}

func moment(e, now int64) int64 {
	if e < 0 {
		return now
	}
	if e >= 1 && e <= month {
		return now + e
	}
	return e
}

// Do is the chapter's eight steps.
func (m *plain) Do(now int64, c api.Command) (api.Answer, []string) {
	if !mayBe(now, c) {
		return api.Answer{}, nil
	}
	m.table.Step()
	if m.flush != 0 && m.flush <= now {
		m.allOut()
	}
	if c.Op == api.OpFlush {
		if at := moment(c.Exp, now); at > now {
			m.flush = at
		} else {
			m.allOut()
		}
		return api.Answer{Status: api.Flushed}, nil
	}
	if chunk, ok := m.chunks[c.Key]; ok && isGone(m.used[chunk], now) {
		m.out(c.Key)
	}
	s := api.State{Cas: m.cas}
	old, was := m.chunks[c.Key]
	if was {
		s.Items = []api.Item{m.used[old]}
	}
	s, a := model.Apply(s, now, c, m.most())
	if len(s.Items) == 0 {
		if was {
			m.out(c.Key)
		}
		m.cas = s.Cas
		return a, nil
	}
	x := s.Items[0]
	class := m.least(40 + len(x.Key) + len(x.Value))
	if was && m.classOf(old) == class {
		m.used[old] = x
		if c.Op == api.OpGet || c.Op == api.OpStore || c.Op == api.OpMath {
			m.policies[class].Touch(old)
		}
		m.cas = s.Cas
		return a, nil
	}
	h := hash.Of(c.Key)
	var dropped []string
	chunk := m.alloc(class)
	if chunk < 0 {
		if victim := m.policies[class].Victim(h); victim >= 0 {
			dropped = m.goes(victim, now)
			chunk = m.alloc(class)
		}
	}
	if chunk < 0 {
		return api.Answer{Status: api.NoMemory}, dropped
	}
	if _, there := m.chunks[c.Key]; there {
		m.out(c.Key)
	}
	m.used[chunk], m.chunks[c.Key] = x, chunk
	m.table.Set(c.Key, chunk)
	m.policies[class].Insert(chunk, h)
	m.cas = s.Cas
	return a, dropped
}

func (m *plain) Items() []api.Item {
	var l []api.Item
	for _, key := range slices.Sorted(maps.Keys(m.chunks)) {
		l = append(l, m.used[m.chunks[key]])
	}
	return l
}

func (m *plain) Chunk(key string) int {
	if chunk, ok := m.chunks[key]; ok {
		return chunk
	}
	return -1
}

// chunksOf are the page's used chunks, rising.
func (m *plain) chunksOf(page int) []int {
	var l []int
	for _, chunk := range slices.Sorted(maps.Keys(m.used)) {
		if chunk/4096 == page {
			l = append(l, chunk)
		}
	}
	return l
}

func (m *plain) Counts(class int) (int, int, int) {
	if class < 0 || class >= len(m.sizes) {
		return 0, 0, 0
	}
	used := 0
	for _, p := range m.pagesOf(class) {
		used += len(m.chunksOf(p))
	}
	return len(m.pagesOf(class)), used, len(m.rows[class])
}

// granted is the page; nil, if it is none, or free.
func (m *plain) granted(page int) *cut {
	if page < 0 || page >= len(m.cuts) || m.cuts[page].class < 0 {
		return nil
	}
	return &m.cuts[page]
}

func (m *plain) Close(page int) api.Errno {
	c := m.granted(page)
	if c == nil || c.closed {
		return api.ErrPage
	}
	c.closed = true
	m.rows[c.class] = slices.DeleteFunc(slices.Clone(m.rows[c.class]), func(chunk int) bool { return chunk/4096 == page })
	return api.OK
}

func (m *plain) Open(page int) api.Errno {
	c := m.granted(page)
	if c == nil || !c.closed {
		return api.ErrPage
	}
	c.closed = false
	m.lay(page)
	return api.OK
}

func (m *plain) Drain(page int, now int64) (string, bool) {
	c, l := m.granted(page), m.chunksOf(page)
	if c == nil || !c.closed || len(l) == 0 || now < 1 || now > far {
		return "", false
	}
	if len(m.rows[c.class]) == 0 {
		if dropped := m.goes(l[0], now); dropped != nil {
			return dropped[0], true
		}
		return "", false
	}
	x := m.used[l[0]]
	chunk := m.alloc(c.class)
	m.used[chunk] = x
	m.free(l[0])
	m.policies[c.class].Remove(l[0])
	m.policies[c.class].Insert(chunk, hash.Of(x.Key))
	m.chunks[x.Key] = chunk
	return "", false
}

func (m *plain) Move(page, class int) api.Errno {
	c := m.granted(page)
	if c == nil || !c.closed {
		return api.ErrPage
	}
	if class < 0 || class >= len(m.sizes) {
		return api.ErrArg
	}
	if len(m.chunksOf(page)) > 0 {
		return api.ErrBusy
	}
	from := c.class
	c.class, c.closed = class, false
	m.lay(page)
	m.setCap(from)
	m.setCap(class)
	return api.OK
}
