package dir

import (
	"testing"

	"intarsia/mix"
)

// topOf puts the highest bits of h together, one by one.
func topOf(h uint32, depth int) int {
	n := 0
	for i := range depth {
		n = 2*n + int(h>>(31-i)%2)
	}
	return n
}

// P11.2: numbers worked out from the keys' bits, which are known: of the empty key
// ab3e.., of `a` 1a80.., of `b` 82c4..
func TestPlaceTold(t *testing.T) {
	for _, c := range []struct {
		depth int
		key   string
		want  int
	}{
		{0, "", 0}, {0, "a", 0}, {0, "b", 0},
		{1, "", 1}, {1, "a", 0}, {1, "b", 1},
		{4, "", 0xa}, {4, "a", 1}, {4, "b", 8},
		{8, "", 0xab}, {8, "a", 0x1a}, {8, "b", 0x82},
		{10, "", 0xab3e >> 6}, {10, "a", 0x1a80 >> 6}, {10, "b", 0x82c4 >> 6},
	} {
		d := full(c.depth)
		if got := Place(d, c.key); got != c.want {
			t.Errorf("depth %d, %q: place %d, want %d", c.depth, c.key, got, c.want)
		}
		if got := At(d, c.key); got != c.want+1 {
			t.Errorf("depth %d, %q: slot %d, want %d", c.depth, c.key, got, c.want+1)
		}
	}
}

// P11.2: of each depth, and of many keys.
func TestPlaceAndAt(t *testing.T) {
	for depth := range 11 {
		d := full(depth)
		kept := copied(d)
		met := map[int]bool{}
		for _, key := range keys() {
			want := topOf(mix.Of(key), depth)
			if got := Place(d, key); got != want || got != mix.Top(mix.Of(key), depth) {
				t.Errorf("depth %d, %q: place %d, want %d", depth, key, got, want)
			}
			if got := At(d, key); got != d.Slots[want] {
				t.Errorf("depth %d, %q: slot %d, want %d", depth, key, got, d.Slots[want])
			}
			met[want] = true
		}
		wantDir(t, "behind the looks", d, kept)
		if len(met) < min(twos(depth)/2, 200) {
			t.Errorf("depth %d: the keys try %d places alone", depth, len(met))
		}
	}
}

// P11.2: of one that Check refuses, whatever its slots are.
func TestPlaceOfRefused(t *testing.T) {
	for _, c := range refused() {
		for _, key := range []string{"", "a", "b", "foobar"} {
			if at, place := At(c.d, key), Place(c.d, key); at != 0 || place != 0 {
				t.Errorf("%v, %q: %d, %d", c.d, key, at, place)
			}
		}
	}
	// A slot that may not be spoils all places, not its own alone.
	for _, at := range []int{0, 1023} {
		d := full(10)
		d.Slots[at] = 0
		for _, key := range keys() {
			if At(d, key) != 0 || Place(d, key) != 0 {
				t.Error(at, key)
			}
		}
	}
}
