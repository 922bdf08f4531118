package bucket

import (
	"slices"
	"testing"

	"intarsia/api"
)

// P10.3: where Add puts a pair.
func TestAdd(t *testing.T) {
	for _, c := range []struct {
		what string
		b    Bucket
		p    api.Pair
		want Bucket
		ok   bool
	}{
		{"into none", of(), pair("a", "b"), of("a", "b"), true},
		{"ahead of all", of("b", "x", "d", "x"), pair("a", "z"), of("a", "z", "b", "x", "d", "x"), true},
		{"between two", of("b", "x", "d", "x"), pair("c", "a"), of("b", "x", "c", "a", "d", "x"), true},
		{"behind all", of("b", "x", "d", "x"), pair("e", ""), of("b", "x", "d", "x", "e", ""), true},
		{"ahead by its Val", of("b", "x", "d", "x"), pair("b", "w"), of("b", "w", "b", "x", "d", "x"), true},
		{"behind by its Val", of("b", "x", "d", "x"), pair("b", "y"), of("b", "x", "b", "y", "d", "x"), true},
		{"behind all by its Val", of("b", "x", "d", "x"), pair("d", "xx"), of("b", "x", "d", "x", "d", "xx"), true},
		{"the empty pair", of("b", "x"), pair("", ""), of("", "", "b", "x"), true},
		{"the first one again", of("b", "x", "d", "x"), pair("b", "x"), of("b", "x", "d", "x"), false},
		{"the last one again", of("b", "x", "d", "x"), pair("d", "x"), of("b", "x", "d", "x"), false},
		{"the empty one again", of("", ""), pair("", ""), of("", ""), false},
		{"too long", of("b", "x"), pair("a", long(500)), of("a", long(500), "b", "x"), true},
		{"into a full one", sized(247), pair("c", ""), Bucket{Pairs: append(sized(247).Pairs, pair("c", ""))}, true},
		{"wrong order, ahead of the first that it is ahead of", of("d", "", "b", "", "e", "", "c", ""), pair("c", "x"), of("c", "x", "d", "", "b", "", "e", "", "c", ""), true},
		{"wrong order, in the middle", of("b", "", "a", "", "e", "", "d", ""), pair("c", ""), of("b", "", "a", "", "c", "", "e", "", "d", ""), true},
		{"wrong order, behind all", of("b", "", "a", ""), pair("c", ""), of("b", "", "a", "", "c", ""), true},
		{"wrong order, one that is in it behind a greater one", of("d", "", "b", ""), pair("b", ""), of("d", "", "b", ""), false},
		{"twice", of("b", "", "b", ""), pair("b", ""), of("b", "", "b", ""), false},
		{"twice, another one", of("b", "", "b", ""), pair("b", "a"), of("b", "", "b", "", "b", "a"), true},
		{"fields that may not be", Bucket{Depth: -5, Next: 1 << 40}, pair("a", ""), Bucket{Depth: -5, Next: 1 << 40, Pairs: pairs("a", "")}, true},
	} {
		kept := clone(c.b)
		got, ok := Add(c.b, c.p)
		wantBucket(t, c.what, got, c.want)
		wantBucket(t, c.what+": b", c.b, kept)
		if ok != c.ok || Has(kept, c.p) == c.ok || !Has(got, c.p) {
			t.Errorf("%s: %v", c.what, ok)
		}
	}
}

// P10.3: Remove.
func TestRemove(t *testing.T) {
	for _, c := range []struct {
		what string
		b    Bucket
		p    api.Pair
		want Bucket
		ok   bool
	}{
		{"of none", of(), pair("a", ""), of(), false},
		{"the only one", of("a", "b"), pair("a", "b"), of(), true},
		{"the first", of("a", "b", "c", "d", "e", "f"), pair("a", "b"), of("c", "d", "e", "f"), true},
		{"the middle one", of("a", "b", "c", "d", "e", "f"), pair("c", "d"), of("a", "b", "e", "f"), true},
		{"the last", of("a", "b", "c", "d", "e", "f"), pair("e", "f"), of("a", "b", "c", "d"), true},
		{"another Val", of("a", "b", "a", "d"), pair("a", "c"), of("a", "b", "a", "d"), false},
		{"another Key", of("a", "b", "c", "d"), pair("b", "b"), of("a", "b", "c", "d"), false},
		{"one Val of several", of("a", "b", "a", "c", "a", "d"), pair("a", "c"), of("a", "b", "a", "d"), true},
		{"wrong order", of("c", "", "a", "", "b", ""), pair("a", ""), of("c", "", "b", ""), true},
		{"wrong order, none", of("c", "", "a", "", "b", ""), pair("d", ""), of("c", "", "a", "", "b", ""), false},
		{"twice", of("a", "", "b", "", "a", "", "c", ""), pair("a", ""), of("b", "", "c", ""), true},
		{"nothing but", of("a", "", "a", "", "a", ""), pair("a", ""), of(), true},
		{"twice, another one", of("a", "", "b", "", "a", ""), pair("b", ""), of("a", "", "a", ""), true},
		{"fields that may not be", Bucket{Depth: -5, Next: 1 << 40, Pairs: pairs("a", "")}, pair("a", ""), Bucket{Depth: -5, Next: 1 << 40}, true},
	} {
		kept := clone(c.b)
		got, ok := Remove(c.b, c.p)
		wantBucket(t, c.what, got, c.want)
		wantBucket(t, c.what+": b", c.b, kept)
		if ok != c.ok || Has(kept, c.p) != c.ok || Has(got, c.p) {
			t.Errorf("%s: %v", c.what, ok)
		}
	}
}

// P10.3: Has.
func TestHas(t *testing.T) {
	b := of("d", "x", "b", "y", "b", "z", "b", "y", "", "")
	for _, p := range pairs("d", "x", "b", "y", "b", "z", "", "") {
		if !Has(b, p) {
			t.Error(p)
		}
	}
	for _, p := range pairs("d", "y", "b", "x", "x", "d", "", "x", "d", "", "dx", "", "a", "", "e", "") {
		if Has(b, p) {
			t.Error(p)
		}
	}
	if Has(Bucket{}, pair("", "")) || Has(Bucket{Depth: 1, Next: 1}, pair("a", "b")) {
		t.Error("none")
	}
}

// P10.3: Vals, in the order in which they stand.
func TestVals(t *testing.T) {
	for _, c := range []struct {
		b    Bucket
		key  string
		want []string
	}{
		{of(), "", nil},
		{of("a", "b"), "", nil},
		{of("a", "b"), "b", nil},
		{of("ab", "c"), "a", nil},
		{of("a", "c"), "ab", nil},
		{of("a", "b", "c", "d"), "a", []string{"b"}},
		{of("a", "b", "c", "d"), "c", []string{"d"}},
		{of("", "", "", "b"), "", []string{"", "b"}},
		{of("a", "z", "b", "", "b", "x", "b", "y", "c", "a"), "b", []string{"", "x", "y"}},
		{of("b", "y", "a", "1", "b", "x", "c", "2", "b", "z"), "b", []string{"y", "x", "z"}},
		{of("b", "x", "b", "x", "a", "", "b", "x"), "b", []string{"x", "x", "x"}},
		{of("b", "x", "b", "x", "a", "", "b", "x"), "c", nil},
	} {
		kept := clone(c.b)
		if got := Vals(c.b, c.key); !slices.Equal(got, c.want) {
			t.Errorf("%v, %q: %q", c.b, c.key, got)
		}
		wantBucket(t, "b", c.b, kept)
	}
}

// Rule 3: what is answered shares nothing with b, nor its spare room.
func TestPairsAreTheirOwn(t *testing.T) {
	all := make([]api.Pair, 4, 16)
	copy(all, pairs("a", "", "c", "", "e", "", "g", ""))
	b := Bucket{Pairs: all[:3]} // its spare room is all's
	want := slices.Clone(all)
	for _, made := range []func() Bucket{
		func() Bucket { c, _ := Add(b, pair("b", "")); return c },
		func() Bucket { c, _ := Add(b, pair("f", "")); return c },
		func() Bucket { c, _ := Add(b, pair("c", "")); return c },
		func() Bucket { c, _ := Remove(b, pair("a", "")); return c },
		func() Bucket { c, _ := Remove(b, pair("e", "")); return c },
		func() Bucket { c, _ := Remove(b, pair("x", "")); return c },
		func() Bucket { zero, _ := Split(b.Pairs, -1); return Bucket{Pairs: zero} },
	} {
		c := made()
		for i := range c.Pairs {
			c.Pairs[i] = pair("changed", "")
		}
		c.Pairs = append(c.Pairs, pair("more", ""), pair("more", ""))
		if !slices.Equal(all, want) || !slices.Equal(all[:16][4:], make([]api.Pair, 12)) {
			t.Fatal(all[:16])
		}
	}
}
