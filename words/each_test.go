package words

import "testing"

// Split goes through to the end, so only here is each left ahead of it.
func TestEachEndsWhenLeft(t *testing.T) {
	var got []string
	for word := range each(" a  b c ") {
		if got = append(got, word); len(got) == 2 {
			break
		}
	}
	if len(got) != 2 || got[0] != "a" || got[1] != "b" {
		t.Errorf("B2: each, left behind the second word, told %q", got)
	}
	for range each("   ") {
		t.Error("B2: each told a word of a line of blanks")
	}
}
