package dir

import (
	"math"
	"slices"
	"testing"

	"intarsia/api"
)

// wantRefusal: Put tells Check's error, and no bytes (P11.4).
func wantRefusal(t *testing.T, what string, d Dir, want api.Errno) {
	t.Helper()
	kept := copied(d)
	if got := Check(d); got != want {
		t.Errorf("%s: Check is %v, want %v", what, got, want)
	}
	b, err := Put(d)
	if err != want || want != api.OK && b != nil {
		t.Errorf("%s: Put is %x, %v, want %v", what, b, err, want)
	}
	wantDir(t, what, d, kept)
}

// P11.1: One, of ids that may be, and of others.
func TestOne(t *testing.T) {
	for _, c := range []struct {
		id   int
		want api.Errno
	}{
		{0, api.ErrRange}, {1, api.OK}, {2, api.OK}, {3000, api.OK}, {3001, api.ErrRange}, {-1, api.ErrRange},
		{math.MaxInt, api.ErrRange}, {math.MinInt, api.ErrRange},
	} {
		d := One(c.id)
		wantDir(t, "One", d, Dir{Depth: 0, Slots: []int{c.id}})
		if got := Check(d); got != c.want {
			t.Errorf("Check of One(%d): %v, want %v", c.id, got, c.want)
		}
	}
	if api.MaxPages != 3000 || api.MaxDepth != 10 {
		t.Error(api.MaxPages, api.MaxDepth)
	}
}

// Rule 4: two answers share nothing.
func TestOneIsItsOwn(t *testing.T) {
	a, b := One(7), One(7)
	a.Slots[0] = 8
	wantDir(t, "the other one", b, of(0, 7))
}

// P11.1: each depth with as many slots as it has, and those outside.
func TestCheckDepth(t *testing.T) {
	for depth := range 11 {
		wantRefusal(t, "all the same", Dir{Depth: depth, Slots: all(twos(depth), 3000)}, api.OK)
		wantRefusal(t, "all others", full(depth), api.OK)
	}
	for _, depth := range []int{-1, 11, 12, 31, 32, 63, 64, 65, 128, -64, math.MaxInt, math.MinInt} {
		for _, n := range []int{0, 1, 2, 1024, 2048, 4096} {
			wantRefusal(t, "depth outside", Dir{Depth: depth, Slots: all(n, 1)}, api.ErrRange)
		}
	}
}

// P11.1: a slot at each edge, at the first and at the last place, and between.
func TestCheckSlots(t *testing.T) {
	for _, depth := range []int{0, 1, 2, 3, 10} {
		n := twos(depth)
		for _, at := range []int{0, n / 2, n - 1} {
			for _, c := range []struct {
				id   int
				want api.Errno
			}{
				{0, api.ErrRange}, {1, api.OK}, {3000, api.OK}, {3001, api.ErrRange}, {-1, api.ErrRange},
				{65535, api.ErrRange}, {65536, api.ErrRange}, {65537, api.ErrRange},
				{math.MaxInt, api.ErrRange}, {math.MinInt, api.ErrRange},
			} {
				wantRefusal(t, "slot", Dir{Depth: depth, Slots: with(all(n, 5), at, c.id)}, c.want)
			}
		}
	}
}

// P11.1: no slots, one fewer, one more, and other numbers of them.
func TestCheckCount(t *testing.T) {
	for depth := range 11 {
		n := twos(depth)
		for _, count := range []int{0, n - 1, n + 1, 2 * n, n / 2, 3000} {
			wantRefusal(t, "count", Dir{Depth: depth, Slots: all(count, 5)}, api.ErrForm)
		}
		wantRefusal(t, "nil", Dir{Depth: depth}, api.ErrForm)
	}
}

// P11.1: a range is told ahead of a wrong number of slots.
func TestCheckFirstError(t *testing.T) {
	for _, c := range []struct {
		what string
		d    Dir
		want api.Errno
	}{
		{"Depth and count", of(11), api.ErrRange},
		{"Depth below and count", of(-1), api.ErrRange},
		{"Depth and a slot", of(11, 0), api.ErrRange},
		{"Depth, a slot and count", of(-1, 3001, 4), api.ErrRange},
		{"the first slot and one too few", of(2, 0, 1, 1), api.ErrRange},
		{"the last slot and one too few", of(2, 1, 1, 0), api.ErrRange},
		{"the last slot and one too many", of(2, 1, 1, 1, 1, 3001), api.ErrRange},
		{"a slot beyond the last one that is to be", of(0, 1, 0), api.ErrRange},
		{"one too few alone", of(2, 1, 1, 1), api.ErrForm},
		{"one too many alone", of(2, 1, 1, 1, 1, 3000), api.ErrForm},
	} {
		wantRefusal(t, c.what, c.d, c.want)
	}
	for _, c := range refused() {
		wantRefusal(t, "refused", c.d, c.want)
	}
}

// An empty list and nil are the same (rule 3).
func TestCheckNone(t *testing.T) {
	for _, slots := range [][]int{nil, {}, slices.Clip([]int{1, 2}[:0])} {
		wantRefusal(t, "none", Dir{Slots: slots}, api.ErrForm)
	}
}
