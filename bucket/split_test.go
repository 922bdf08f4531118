package bucket

import (
	"math"
	"slices"
	"strconv"
	"testing"

	"intarsia/api"
	"intarsia/mix"
)

func manyPairs() []api.Pair {
	var l []api.Pair
	for i := range 60 {
		l = append(l, pair("k"+strconv.Itoa((i*37)%50), strconv.Itoa(i)))
	}
	return l
}

// P10.4: Split, at each place that a key's bits have.
func TestSplit(t *testing.T) {
	l := manyPairs()
	kept := slices.Clone(l)
	for at := range 32 {
		var want [2][]api.Pair
		for _, p := range l {
			bit := mix.Of(p.Key) >> (31 - at) % 2
			want[bit] = append(want[bit], p)
		}
		zero, one := Split(l, at)
		if !slices.Equal(zero, want[0]) || !slices.Equal(one, want[1]) {
			t.Errorf("%d: %v, %v", at, zero, one)
		}
		if len(zero) == 0 || len(one) == 0 {
			t.Errorf("%d: the pairs try one bit alone", at)
		}
	}
	if !slices.Equal(l, kept) {
		t.Error("l was changed")
	}
}

// P10.4: at places that a key's bits don't have, mix.Bit is 0.
func TestSplitOutside(t *testing.T) {
	l := manyPairs()
	for _, at := range []int{-1, 32, 33, 64, -32, math.MinInt, math.MaxInt} {
		zero, one := Split(l, at)
		if !slices.Equal(zero, l) || one != nil {
			t.Errorf("%d: %v, %v", at, zero, one)
		}
	}
}

func TestSplitNone(t *testing.T) {
	for _, at := range []int{-1, 0, 31, 32} {
		for _, l := range [][]api.Pair{nil, {}} {
			if zero, one := Split(l, at); zero != nil || one != nil {
				t.Error(at, zero, one)
			}
		}
	}
}

// P10.4: pairs stay as often as they are, and in the order that they have.
func TestSplitAsTheyStand(t *testing.T) {
	l := pairs("b", "2", "a", "9", "b", "1", "a", "9", "b", "2")
	zero, one := Split(l, -1)
	if !slices.Equal(zero, l) || one != nil {
		t.Error(zero, one)
	}
	for at := range 32 {
		zero, one := Split(l, at)
		if len(zero)+len(one) != len(l) {
			t.Error(at, zero, one)
		}
		for _, part := range [][]api.Pair{zero, one} {
			if vals := Vals(Bucket{Pairs: part}, "b"); len(vals) > 0 && !slices.Equal(vals, []string{"2", "1", "2"}) {
				t.Error(at, part)
			}
		}
	}
}

// LANGUAGE 7: the two lists share no memory, nor with l.
func TestSplitIsItsOwn(t *testing.T) {
	l := manyPairs()
	kept := slices.Clone(l)
	zero, one := Split(l, 0)
	wantOne := slices.Clone(one)
	for range 100 {
		zero = append(zero, pair("more", ""))
	}
	for i := range zero {
		zero[i] = pair("changed", "")
	}
	if !slices.Equal(one, wantOne) || !slices.Equal(l, kept) {
		t.Error(one)
	}
}

// P10.4: Less. Each list is in its order, and each pair ahead of all behind it.
func TestLess(t *testing.T) {
	l := pairs("", "", "", "\x00", "", "z", "\x00", "", "A", "z", "a", "", "a", "b", "a", "ba", "a", "c", "aa", "", "ab", "", "b", "", "b", "\xff", "\x80", "", "\xff", "")
	for i, a := range l {
		for j, b := range l {
			if Less(a, b) != (i < j) || ahead(a, b) != (i < j) {
				t.Error(a, b)
			}
		}
	}
}

// P10.4: Same, in each field.
func TestSame(t *testing.T) {
	b := of("a", "b", "c", "d")
	for _, c := range []Bucket{
		{Depth: 4, Next: 7, Pairs: b.Pairs},
		{Depth: 3, Next: 8, Pairs: b.Pairs},
		{Depth: 7, Next: 3, Pairs: b.Pairs},
		of("a", "b"), of(), of("a", "b", "c", "d", "e", "f"), of("c", "d", "a", "b"),
		of("a", "b", "c", "e"), of("a", "b", "d", "d"), of("x", "b", "c", "d"), of("a", "x", "c", "d"),
		of("a", "b", "c", "d", "c", "d"), {},
	} {
		if Same(b, c) || Same(c, b) {
			t.Error(c)
		}
		if !Same(c, clone(c)) {
			t.Error(c)
		}
	}
	if !Same(b, clone(b)) || !Same(Bucket{}, Bucket{Pairs: []api.Pair{}}) || !Same(Bucket{Depth: -1}, Bucket{Depth: -1}) {
		t.Error("the same")
	}
}
