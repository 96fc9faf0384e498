package stats

import (
	"math"
	"slices"
	"strings"
	"testing"

	"ambry/api"
)

// full has counted 2^64 - 1 of each: too many for calls, so only here is it set.
func full() *Stats {
	const most = math.MaxUint64
	all := tries{most, most}
	return &Stats{
		cmdGet: most, cmdSet: most, cmdTouch: most, cmdFlush: most,
		get: all, del: all, incr: all, decr: all, cas: all, touch: all,
		casBadval: most, evictions: most,
	}
}

// Each count goes round at 2^64, and no other one changes by that (S1).
func TestCountsGoRound(t *testing.T) {
	for _, is := range []struct {
		c      api.Command
		status int
		lost   int
		names  string
	}{
		{api.Command{Op: api.OpGet}, api.Hit, 0, "cmd_get get_hits"},
		{api.Command{Op: api.OpGet}, api.NotFound, 0, "cmd_get get_misses"},
		{api.Command{Op: api.OpStore}, api.Stored, 0, "cmd_set"},
		{api.Command{Op: api.OpStore, HasCas: true}, api.Stored, 0, "cmd_set cas_hits"},
		{api.Command{Op: api.OpStore, HasCas: true}, api.Exists, 0, "cmd_set cas_badval"},
		{api.Command{Op: api.OpStore, HasCas: true}, api.NotFound, 0, "cmd_set cas_misses"},
		{api.Command{Op: api.OpMath}, api.Counted, 0, "incr_hits"},
		{api.Command{Op: api.OpMath}, api.NotFound, 0, "incr_misses"},
		{api.Command{Op: api.OpMath, Down: true}, api.Counted, 0, "decr_hits"},
		{api.Command{Op: api.OpMath, Down: true}, api.NotFound, 0, "decr_misses"},
		{api.Command{Op: api.OpTouch}, api.Touched, 0, "cmd_touch touch_hits"},
		{api.Command{Op: api.OpTouch}, api.NotFound, 0, "cmd_touch touch_misses"},
		{api.Command{Op: api.OpDelete}, api.Deleted, 0, "delete_hits"},
		{api.Command{Op: api.OpDelete}, api.NotFound, 0, "delete_misses"},
		{api.Command{Op: api.OpFlush}, api.Flushed, 1, "cmd_flush evictions"},
		{api.Command{Op: api.OpLook}, api.Hit, 1, "evictions"},
	} {
		s := full()
		s.Count(is.c, api.Answer{Status: is.status}, is.lost)
		for _, line := range s.Lines() {
			l := strings.Fields(line)
			want := "18446744073709551615"
			if slices.Contains(strings.Fields(is.names), l[1]) {
				want = "0"
			}
			if l[2] != want {
				t.Errorf("S1: all counts were 2^64 - 1; behind Count of %+v with status %d and lost %d: %q; want %s", is.c, is.status, is.lost, line, want)
			}
		}
	}
}

// Reset of the greatest counts: all are 0 (S1).
func TestResetOfFull(t *testing.T) {
	s := full()
	s.Reset()
	if l, want := s.Lines(), New().Lines(); !slices.Equal(l, want) {
		t.Errorf("S1: behind Reset Lines() = %q; want %q", l, want)
	}
}
