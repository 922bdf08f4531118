package exthash

import (
	"fmt"
	"math/rand"
	"slices"
	"testing"

	"intarsia/api"
)

// keysOf are keys of all kinds: drawn ones, some whose ten highest bits are the
// same, and some that part late.
func keysOf() []string {
	keys := []string{"", "same", "\x00", "\xff"}
	keys = append(keys, keysAt("0011010111", 4)...)
	keys = append(keys, keysAt("0011010110", 2)...)
	keys = append(keys, keysAt("00110101", 2)...)
	for i := range 30 {
		keys = append(keys, fmt.Sprint("key", i))
	}
	return keys
}

// drawn tells a pair, of which many have the first keys.
func drawn(r *rand.Rand, keys []string) api.Pair {
	key := keys[r.Intn(1+r.Intn(len(keys)))]
	return api.Pair{Key: key, Val: numbered(r.Intn(30), 2+r.Intn(1+r.Intn(159)))}
}

// P12.5: how a Put that has put a pair in may have changed the pages: not at
// all in number where a page of the chain has room; by just one behind the
// chain where no bit parts; else the chain is parted, and no chain of what it
// was has more than a page that a bit would part.
func wantGrown(t *testing.T, before, after view, p api.Pair) {
	t.Helper()
	c, d := before.chainOf(p.Key), after.chainOf(p.Key)
	hasRoom := slices.ContainsFunc(c.pages, func(l []api.Pair) bool { return bytesOf(l, []api.Pair{p}) <= room })
	switch {
	case hasRoom:
		if !slices.Equal(before.ids(), after.ids()) || !slices.Equal(before.slots, after.slots) {
			t.Fatalf("there was room for %v, but the pages are others", p)
		}
	case !bitParts(append(c.all(), p), c.depth):
		if !slices.Equal(before.slots, after.slots) || len(d.ids) != len(c.ids)+1 || !slices.Equal(d.ids[:len(c.ids)], c.ids) {
			t.Fatalf("no page behind the chain %v for %v: %v", c.ids, p, d.ids)
		}
	default:
		wantParted(t, before, after, c)
	}
}

func wantParted(t *testing.T, before, after view, c *chainView) {
	t.Helper()
	if after.chains[c.ids[0]] != nil && after.chains[c.ids[0]].depth == c.depth {
		t.Fatalf("chain %v is not parted", c.ids)
	}
	width := after.depth - c.depth
	prefix := c.places[0] >> (before.depth - c.depth)
	for place, id := range after.slots {
		d := after.chains[id]
		if place>>width != prefix {
			if was := before.slots[place>>(after.depth-before.depth)]; was != id {
				t.Fatalf("slot %d: %d, and was %d", place, id, was)
			}
		} else if len(d.ids) > 1 && bitParts(d.all(), d.depth) {
			t.Fatalf("chain %v has several pages, though a bit parts it", d.ids)
		}
	}
}

// P12.3 to P12.6: drawn calls beside a map of what was put and not deleted,
// with few frames and many; all looks behind each call.
func TestModel(t *testing.T) {
	keys := keysOf()
	for seed, frames := range []int{1, 2, 4, 64, 3} {
		r := rand.New(rand.NewSource(int64(seed)))
		b, x := made(t, frames)
		m := pairs{}
		v := wantWell(t, b, x, m)
		deepest, longest := 0, 0
		for n := range 240 {
			p := drawn(r, keys)
			_, there := m[p]
			// more come than go at first, and then more go
			if r.Intn(240) < n/2 && len(m) > 0 {
				if l := m.sorted(); r.Intn(4) > 0 {
					p = l[r.Intn(len(l))]
				}
				drop(t, x, m, p.Key, p.Val)
				v = wantWell(t, b, x, m)
			} else {
				put(t, x, m, p.Key, p.Val)
				after := wantWell(t, b, x, m)
				if !there {
					wantGrown(t, v, after, p)
				}
				v = after
			}
			deepest = max(deepest, v.depth)
			for _, c := range v.chains {
				longest = max(longest, len(c.ids))
			}
			if n%40 == 0 {
				wantPairs(t, x, m)
				wantPairs(t, open(t, b, x.Head()), m)
			}
		}
		if deepest < 7 || longest < 3 {
			t.Errorf("seed %d: no more than %d bits, and %d pages in a chain", seed, deepest, longest)
		}
		for p := range m.clone() {
			drop(t, x, m, p.Key, p.Val)
		}
		wantEmpty(t, b, x)
	}
}

// P12.6: however few frames there are, the same calls tell the same, and lay
// the same pages.
func TestFramesDoNotShow(t *testing.T) {
	keys := keysOf()
	var want string
	for _, frames := range []int{1, 2, 4, 64} {
		r := rand.New(rand.NewSource(99))
		b, x := made(t, frames)
		m := pairs{}
		for range 200 {
			p := drawn(r, keys)
			if r.Intn(3) == 0 {
				drop(t, x, m, p.Key, p.Val)
			} else {
				put(t, x, m, p.Key, p.Val)
			}
		}
		got := memory(t, b)
		if want == "" {
			want = got
		}
		if got != want {
			t.Errorf("with %d frames the pages are others", frames)
		}
	}
}

// P12.6: drawn calls with commits, aborts and failures of the power among them:
// the table that is opened anew has what was settled.
func TestCommitsAndAborts(t *testing.T) {
	keys := keysOf()
	for seed := range 6 {
		r := rand.New(rand.NewSource(int64(100 + seed)))
		frames := 1 + r.Intn(5)
		b, x := made(t, frames)
		checkErr(t, "SetStart", b.s.SetStart(x.Head()), api.OK)
		checkErr(t, "Commit", b.p.Commit(), api.OK)
		m, last := pairs{}, pairs{}
		for range 250 {
			switch p := drawn(r, keys); r.Intn(24) {
			case 0:
				checkErr(t, "Commit", b.p.Commit(), api.OK)
				last = m.clone()
			case 1:
				checkErr(t, "Abort", b.p.Abort(), api.OK)
				x, m = open(t, b, b.s.Start()), last.clone()
				wantWell(t, b, x, m)
			case 2:
				b = again(t, b, frames, []byte{byte(r.Intn(3)), byte(r.Intn(3)), byte(r.Intn(3)), 1, 2, 3})
				x, m = open(t, b, b.s.Start()), last.clone()
				wantWell(t, b, x, m)
			case 3, 4, 5, 6, 7, 8:
				drop(t, x, m, p.Key, p.Val)
			default:
				put(t, x, m, p.Key, p.Val)
			}
		}
		wantWell(t, b, x, m)
		wantPairs(t, x, m)
	}
}

// Rule 4: two tables that were given one pool and one head have the pages in
// common: what one puts the other tells.
func TestTwoOfOneHead(t *testing.T) {
	r := rand.New(rand.NewSource(4))
	keys := keysOf()
	b, x := made(t, 3)
	y := open(t, b, x.Head())
	m := pairs{}
	for range 150 {
		x, y = y, x
		if p := drawn(r, keys); r.Intn(3) == 0 {
			drop(t, x, m, p.Key, p.Val)
		} else {
			put(t, x, m, p.Key, p.Val)
		}
		wantWell(t, b, x, m)
	}
	wantPairs(t, x, m)
	wantPairs(t, y, m)
	if y.Len() != len(m) || y.Depth() != x.Depth() {
		t.Error(y.Len(), y.Depth())
	}
}

// Rules 1 and 4: any calls, told by bytes, beside a map.
func FuzzCalls(f *testing.F) {
	f.Add([]byte{1}, "key")
	f.Add([]byte{2, 10, 200, 11, 200, 12, 200, 13, 200, 10, 0, 11, 255}, "")
	f.Add([]byte("some bytes that tell calls, and some more of them"), "same")
	f.Fuzz(func(t *testing.T, b []byte, text string) {
		if len(b) == 0 || len(b) > 400 {
			return
		}
		bed := bedOf(t, 600, 1+int(b[0])%64)
		x := create(t, bed)
		m := pairs{}
		for i := 2; i < len(b); i += 2 {
			p := api.Pair{Key: fmt.Sprint(text, b[i-1]%16), Val: numbered(int(b[i]), 3+int(b[i-1]))}
			_, there := m[p]
			do, long := x.Put, len(p.Key) > 48 || len(p.Val) > 160
			if b[i]%4 == 0 {
				do = x.Delete
			}
			ok, err := do(p.Key, p.Val)
			switch {
			case long:
				checkErr(t, "long", err, api.ErrLong)
				continue
			case err != api.OK || b[i]%4 == 0 && ok != there || b[i]%4 != 0 && ok == there:
				t.Fatal(p, ok, int(err))
			case b[i]%4 == 0:
				delete(m, p)
			default:
				m[p] = struct{}{}
			}
		}
		wantWell(t, bed, x, m)
		wantPairs(t, x, m)
	})
}
