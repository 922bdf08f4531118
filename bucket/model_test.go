package bucket

import (
	"bytes"
	"maps"
	"math/rand"
	"slices"
	"testing"

	"intarsia/api"
)

func drawn(r *rand.Rand) api.Pair {
	letters := []string{"", "a", "b", "ab", "\x00", "\xff"}
	return pair(letters[r.Intn(len(letters))], letters[r.Intn(len(letters))])
}

func sortedOf(set map[api.Pair]bool) []api.Pair {
	return slices.SortedFunc(maps.Keys(set), func(a, b api.Pair) int {
		switch {
		case ahead(a, b):
			return -1
		case ahead(b, a):
			return 1
		}
		return 0
	})
}

// P10.5: a bucket that is added to and removed from is as a set, in order.
func TestModel(t *testing.T) {
	r := rand.New(rand.NewSource(10))
	for range 50 {
		b := Bucket{Depth: r.Intn(11), Next: r.Intn(3001)}
		start := b
		set := map[api.Pair]bool{}
		for range 200 {
			p := drawn(r)
			if Has(b, p) != set[p] {
				t.Fatal(b, p)
			}
			var ok, want bool
			if r.Intn(2) == 0 {
				want = !set[p]
				set[p] = true
				b, ok = Add(b, p)
			} else {
				want = set[p]
				delete(set, p)
				b, ok = Remove(b, p)
			}
			start.Pairs = sortedOf(set)
			wantBucket(t, "model", b, start)
			if ok != want || Check(b) != api.OK {
				t.Fatal(b, p, ok)
			}
			x, err := Put(b)
			if c, got := Get(x); err != api.OK || got != api.OK || !Same(b, c) || !bytes.Equal(x, bodyOf(b, len(b.Pairs))) {
				t.Fatal(b, c)
			}
		}
	}
}

// P10.3, of buckets of any kind: as the promise words it.
func TestModelOfAny(t *testing.T) {
	r := rand.New(rand.NewSource(103))
	for range 3000 {
		b := Bucket{Depth: r.Intn(30) - 10, Next: r.Intn(9000) - 3000}
		for range r.Intn(12) {
			b.Pairs = append(b.Pairs, drawn(r))
		}
		kept, p := clone(b), drawn(r)
		var without, with []api.Pair
		var vals []string
		put := slices.Contains(b.Pairs, p)
		for _, q := range b.Pairs {
			if q != p {
				without = append(without, q)
			}
			if q.Key == p.Key {
				vals = append(vals, q.Val)
			}
			if !put && ahead(p, q) {
				with, put = append(with, p), true
			}
			with = append(with, q)
		}
		if !put {
			with = append(with, p)
		}
		has := slices.Contains(b.Pairs, p)
		c, ok := Add(b, p)
		wantBucket(t, "Add", c, Bucket{Depth: b.Depth, Next: b.Next, Pairs: with})
		d, gone := Remove(b, p)
		wantBucket(t, "Remove", d, Bucket{Depth: b.Depth, Next: b.Next, Pairs: without})
		if ok == has || gone != has || Has(b, p) != has || !slices.Equal(Vals(b, p.Key), vals) {
			t.Fatal(b, p)
		}
		wantBucket(t, "b", b, kept)
	}
}

// Rule 1: any bytes.
func FuzzGet(f *testing.F) {
	for _, b := range mayBe() {
		f.Add(bodyOf(b, len(b.Pairs)))
	}
	f.Add([]byte{})
	f.Fuzz(func(t *testing.T, body []byte) {
		b, err := Get(body)
		if err == api.OK && !bytes.Equal(bodyOf(b, len(b.Pairs)), body) || err != api.OK && err != api.ErrForm {
			t.Error(b, err)
		}
	})
}
