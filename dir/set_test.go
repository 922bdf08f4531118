package dir

import (
	"math"
	"slices"
	"testing"
)

// digits tells a place as so many noughts and ones, the highest first.
func digits(place, depth int) []int {
	l := make([]int, depth)
	for i := depth - 1; i >= 0; i-- {
		l[i] = place % 2
		place /= 2
	}
	return l
}

// setOf is what Set is by the promise's words, of arguments that may be.
func setOf(d Dir, prefix, depth, id int) Dir {
	e := copied(d)
	for place := range e.Slots {
		if slices.Equal(digits(place, d.Depth)[:depth], digits(prefix, depth)) {
			e.Slots[place] = id
		}
	}
	return e
}

func wantSet(t *testing.T, d Dir, prefix, depth, id int, want Dir) {
	t.Helper()
	kept := copied(d)
	if got := Set(d, prefix, depth, id); !equal(got, want) {
		t.Errorf("Set(%v, %d, %d, %d) = %v, want %v", d, prefix, depth, id, got, want)
	}
	wantDir(t, "behind Set", d, kept)
}

// P11.3: Set told by hand.
func TestSetTold(t *testing.T) {
	d := of(2, 1, 2, 3, 4)
	for _, c := range []struct {
		prefix, depth, id int
		want              Dir
	}{
		{0, 0, 9, of(2, 9, 9, 9, 9)},
		{0, 1, 9, of(2, 9, 9, 3, 4)},
		{1, 1, 9, of(2, 1, 2, 9, 9)},
		{0, 2, 9, of(2, 9, 2, 3, 4)},
		{1, 2, 9, of(2, 1, 9, 3, 4)},
		{2, 2, 9, of(2, 1, 2, 9, 4)},
		{3, 2, 9, of(2, 1, 2, 3, 9)},
		{3, 2, 4, d},
		{3, 2, 1, of(2, 1, 2, 3, 1)},
		{3, 2, 3000, of(2, 1, 2, 3, 3000)},
	} {
		wantSet(t, d, c.prefix, c.depth, c.id, c.want)
	}
	wantSet(t, of(1, 7, 7), 1, 1, 9, of(1, 7, 9))
	wantSet(t, One(7), 0, 0, 9, One(9))
}

// P11.3: each depth of each Depth, and its prefixes.
func TestSetEach(t *testing.T) {
	for most := range 11 {
		d := full(most)
		for depth := range most + 1 {
			last := twos(depth) - 1
			for _, prefix := range []int{0, last / 3, last / 2, max(last-1, 0), last} {
				wantSet(t, d, prefix, depth, 2999, setOf(d, prefix, depth, 2999))
			}
			for _, prefix := range []int{-1, last + 1, 2 * (last + 1), math.MaxInt, math.MinInt} {
				wantSet(t, d, prefix, depth, 2999, d)
			}
		}
	}
}

// P11.3: d as it is, of a depth, a prefix or an id that may not be.
func TestSetRefused(t *testing.T) {
	for _, most := range []int{0, 1, 2, 10} {
		d := full(most)
		for _, depth := range []int{-1, most + 1, 11, 32, 63, 64, 65, -64, math.MaxInt, math.MinInt} {
			for _, prefix := range []int{-1, 0, 1, 2} {
				wantSet(t, d, prefix, depth, 2999, d)
			}
		}
		for _, id := range []int{0, 3001, -1, 65536, math.MaxInt, math.MinInt} {
			wantSet(t, d, 0, 0, id, d)
			wantSet(t, d, 0, most, id, d)
			wantSet(t, d, twos(most)-1, most, id, d)
		}
		for _, id := range []int{1, 3000} {
			wantSet(t, d, 0, 0, id, Dir{Depth: most, Slots: all(twos(most), id)})
			wantSet(t, d, twos(most)-1, most, id, Dir{Depth: most, Slots: with(d.Slots, twos(most)-1, id)})
		}
	}
	for _, c := range refused() {
		for _, depth := range []int{-1, 0, 1, 10} {
			wantSet(t, c.d, 0, depth, 9, c.d)
		}
	}
}

// Rule 3: what is answered shares no memory with d, whether it was changed or
// not.
func TestSetIsItsOwn(t *testing.T) {
	l := []Dir{of(0, 7), of(1, 7, 9), full(3), full(10)}
	for _, c := range refused() {
		l = append(l, c.d)
	}
	for _, d := range l {
		wantOwn(t, "Set", d, func(d Dir) Dir { return Set(d, 0, 0, 2999) })
		wantOwn(t, "Set of a wrong id", d, func(d Dir) Dir { return Set(d, 0, 0, 0) })
		wantOwn(t, "Set of a wrong depth", d, func(d Dir) Dir { return Set(d, 0, -1, 5) })
		wantOwn(t, "Set of a wrong prefix", d, func(d Dir) Dir { return Set(d, 1, 0, 5) })
	}
}
