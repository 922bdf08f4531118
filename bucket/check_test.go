package bucket

import (
	"math"
	"testing"

	"intarsia/api"
	"intarsia/page"
)

// P10.1: Size.
func TestSize(t *testing.T) {
	for _, c := range []struct {
		b    Bucket
		want int
	}{
		{Bucket{}, 4},
		{Bucket{Depth: 10, Next: 3000, Pairs: []api.Pair{}}, 4},
		{of("", ""), 6},
		{of("k", "vw"), 9},
		{of("k", "vw", "l", "", "", "mno"), 17},
		{of("b", "", "a", "", "a", ""), 13},
		{of(long(48), long(160)), 214},
		{of(long(300), long(70000)), 70306},
		{Bucket{Depth: -1, Next: math.MaxInt}, 4},
		{sized(246), 246},
		{sized(247), 247},
	} {
		if got := Size(c.b); got != c.want {
			t.Errorf("%v: %d, want %d", c.b, got, c.want)
		}
	}
}

// P10.1: each edge of Check, one by one; Put tells the same (P10.2).
func TestCheckEdges(t *testing.T) {
	for _, c := range []struct {
		what string
		b    Bucket
		want api.Errno
	}{
		{"least Depth", Bucket{Depth: math.MinInt}, api.ErrRange},
		{"Depth -1", Bucket{Depth: -1}, api.ErrRange},
		{"Depth 0", Bucket{Depth: 0}, api.OK},
		{"Depth 10", Bucket{Depth: 10}, api.OK},
		{"Depth 11", Bucket{Depth: 11}, api.ErrRange},
		{"Depth 256", Bucket{Depth: 256}, api.ErrRange},
		{"greatest Depth", Bucket{Depth: math.MaxInt}, api.ErrRange},
		{"least Next", Bucket{Next: math.MinInt}, api.ErrRange},
		{"Next -1", Bucket{Next: -1}, api.ErrRange},
		{"Next 0", Bucket{Next: 0}, api.OK},
		{"Next 3000", Bucket{Next: 3000}, api.OK},
		{"Next 3001", Bucket{Next: 3001}, api.ErrRange},
		{"Next 65536", Bucket{Next: 65536}, api.ErrRange},
		{"greatest Next", Bucket{Next: math.MaxInt}, api.ErrRange},
		{"Key of 48", of(long(48), ""), api.OK},
		{"Key of 49", of(long(49), ""), api.ErrLong},
		{"Key of 256", of(long(256), ""), api.ErrLong},
		{"Val of 160", of("", long(160)), api.OK},
		{"Val of 161", of("", long(161)), api.ErrLong},
		{"Val of 256", of("", long(256)), api.ErrLong},
		{"both longest", of(long(48), long(160)), api.OK},
		{"a later Key of 49", of("a", "", "b", "", long(49), ""), api.ErrLong},
		{"a later Val of 161", of("a", "", "b", "", "c", long(161)), api.ErrLong},
		{"Size 246", sized(246), api.OK},
		{"Size 247", sized(247), api.ErrFull},
		{"two the same", of("a", "b", "a", "b"), api.ErrForm},
		{"two empty ones", of("", "", "", ""), api.ErrForm},
		{"wrong order", of("b", "", "a", ""), api.ErrForm},
		{"wrong order, Vals in order", of("b", "a", "a", "b"), api.ErrForm},
		{"Vals in the wrong order", of("a", "c", "a", "b"), api.ErrForm},
		{"Vals in order", of("a", "b", "a", "c"), api.OK},
		{"Keys in order, Vals not", of("a", "c", "b", "a"), api.OK},
		{"the last two in the wrong order", of("a", "", "b", "", "d", "", "c", ""), api.ErrForm},
		{"the first two in the wrong order", of("b", "", "a", "", "c", "", "d", ""), api.ErrForm},
		{"bytes, not letters", of("B", "", "a", "", "\x80", "", "\xff", ""), api.OK},
		{"a high byte ahead", of("\x80", "", "a", ""), api.ErrForm},
		{"a beginning ahead", of("a", "", "ab", ""), api.OK},
		{"a beginning behind", of("ab", "", "a", ""), api.ErrForm},
		{"one pair", of("a", "b"), api.OK},
		{"no pair", of(), api.OK},
	} {
		if c.want != api.OK {
			wantNoBody(t, c.what, c.b, c.want)
		} else if got := Check(c.b); got != c.want {
			t.Errorf("%s: %v", c.what, got)
		}
	}
	if page.Room != 246 {
		t.Error(page.Room)
	}
}

// P10.1: of several errors the first one counts. Each bucket has its own error
// and all that come behind it.
func TestCheckFirstError(t *testing.T) {
	bad := pairs("b", long(100), "a", long(100), "a", long(161))
	full := pairs("b", long(121), "a", long(121))
	wantNoBody(t, "Depth and all", Bucket{Depth: 11, Next: -1, Pairs: bad}, api.ErrRange)
	wantNoBody(t, "Next and all", Bucket{Depth: 10, Next: 3001, Pairs: bad}, api.ErrRange)
	wantNoBody(t, "Depth and wrong order", Bucket{Depth: -1, Pairs: pairs("b", "", "a", "")}, api.ErrRange)
	wantNoBody(t, "Next and full", Bucket{Next: -1, Pairs: full}, api.ErrRange)
	wantNoBody(t, "long, full and wrong order", Bucket{Pairs: bad}, api.ErrLong)
	wantNoBody(t, "long and wrong order", Bucket{Pairs: pairs("b", "", long(49), "", "a", "")}, api.ErrLong)
	wantNoBody(t, "wrong order ahead of long", Bucket{Pairs: pairs("b", "", "a", "", "c", long(161))}, api.ErrLong)
	wantNoBody(t, "full and wrong order", Bucket{Pairs: full}, api.ErrFull)
	wantNoBody(t, "full of the same", Bucket{Pairs: make([]api.Pair, 122)}, api.ErrFull)
	wantNoBody(t, "not full of the same", Bucket{Pairs: make([]api.Pair, 121)}, api.ErrForm)
	wantNoBody(t, "more pairs than a byte tells", Bucket{Pairs: make([]api.Pair, 256)}, api.ErrFull)
}
