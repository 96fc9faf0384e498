package arena

import (
	"testing"

	"ambry/api"
)

// No call puts anything behind a page's bytes, so only here is it tried.
func TestWholeHasNoRoomBehindIt(t *testing.T) {
	const pages, page = 3, 520
	a, e := New(pages, page)
	if e != api.OK {
		t.Fatalf("F1: New(%d, %d): %v", pages, page, e)
	}
	for p := range pages {
		b := a.whole(p)
		if len(b) != page || cap(b) != page {
			t.Errorf("F3: page %d has %d bytes, and room for %d; want %d", p, len(b), cap(b), page)
		}
		_ = append(b, 1, 2, 3)
	}
	for i, b := range a.row {
		if b != 0 {
			t.Fatalf("F3: what was put behind a page stands at byte %d of the row", i)
		}
	}
	for p := range pages {
		a.whole(p)[0], a.whole(p)[page-1] = byte(10+p), byte(20+p)
	}
	for p := range pages {
		if first, last := a.row[p*page], a.row[(p+1)*page-1]; int(first) != 10+p || int(last) != 20+p {
			t.Errorf("F3: page %d begins and ends with %d and %d of the row", p, first, last)
		}
	}
}
