package exthash

import (
	"fmt"
	"math/rand"
	"slices"
	"strings"
	"testing"

	"intarsia/api"
)

// wantChain tells whether a key's chain has so many pages at so many bits, and
// the table so many pages and bits in all.
func wantChain(t *testing.T, v view, key string, links, depth, ids, bits int) {
	t.Helper()
	c := v.chainOf(key)
	if len(c.ids) != links || c.depth != depth || len(v.ids()) != ids || v.depth != bits {
		t.Fatalf("a chain of %d pages at depth %d, %d pages at depth %d; want %d, %d, %d, %d",
			len(c.ids), c.depth, len(v.ids()), v.depth, links, depth, ids, bits)
	}
}

// P12.5: more pairs under one key than a page has room for: a further page each
// time that none has room, and no bits.
func TestOneKey(t *testing.T) {
	b, x := made(t, 4)
	m := pairs{}
	for i := range 12 {
		put(t, x, m, "same", big(i))
		wantChain(t, wantWell(t, b, x, m), "same", i+1, 0, i+3, 0)
	}
	// each page has 246 - 4 - 136 bytes of room: for four of 26 bytes
	for i := range 48 {
		put(t, x, m, "same", numbered(i, 20))
		wantChain(t, wantWell(t, b, x, m), "same", 12, 0, 14, 0)
	}
	put(t, x, m, "same", "")
	wantChain(t, wantWell(t, b, x, m), "same", 13, 0, 15, 0)
	wantPairs(t, x, m)
}

// P12.5: a page is filled to its last byte.
func TestLastByte(t *testing.T) {
	for _, more := range []int{0, 1} {
		b, x := made(t, 4)
		m := pairs{}
		put(t, x, m, "k", strings.Repeat("a", 115))
		put(t, x, m, "k", strings.Repeat("b", 115+more)+"bbbbbb")
		wantChain(t, wantWell(t, b, x, m), "k", 1+more, 0, 3+more, 0)
		drop(t, x, m, "k", strings.Repeat("a", 115))
		wantChain(t, wantWell(t, b, x, m), "k", 1, 0, 3, 0)
	}
}

// orders tells a list in rising, falling and drawn orders.
func orders(l []api.Pair, r *rand.Rand) [][]api.Pair {
	slices.SortFunc(l, rising)
	falling := slices.Clone(l)
	slices.Reverse(falling)
	all := [][]api.Pair{l, falling}
	for range 3 {
		drawn := slices.Clone(l)
		r.Shuffle(len(drawn), func(i, j int) { drawn[i], drawn[j] = drawn[j], drawn[i] })
		all = append(all, drawn)
	}
	return all
}

// P12.5: the pairs of one long chain deleted in whatever order: the pages go
// with them, and three are left.
func TestOneKeyDeleted(t *testing.T) {
	r := rand.New(rand.NewSource(5))
	var l []api.Pair
	for i := range 60 {
		l = append(l, api.Pair{Key: "same", Val: numbered(i, 4+i*37%120)})
	}
	for _, in := range orders(l, r) {
		for _, out := range orders(l, r) {
			b, x := made(t, 5)
			m := pairs{}
			for _, p := range in {
				put(t, x, m, p.Key, p.Val)
			}
			for _, p := range out {
				drop(t, x, m, p.Key, p.Val)
				if v := wantWell(t, b, x, m); v.depth != 0 {
					t.Fatal(v.depth)
				}
			}
			wantEmpty(t, b, x)
		}
	}
}

// P12.5: all pairs of a table with chains of all kinds deleted, in rising,
// falling and drawn order: three pages, Depth 0.
func TestAllDeleted(t *testing.T) {
	r := rand.New(rand.NewSource(6))
	var l []api.Pair
	for i := range 90 {
		l = append(l, api.Pair{Key: fmt.Sprint("k", i), Val: numbered(i, 2+i*29%150)})
	}
	for i := range 20 {
		l = append(l, api.Pair{Key: "same", Val: numbered(i, 40)})
	}
	for i, key := range keysAt("1011001110", 8) {
		l = append(l, api.Pair{Key: key, Val: big(i)})
	}
	for _, out := range orders(l, r) {
		b, x := made(t, 7)
		m := pairs{}
		for _, p := range l {
			put(t, x, m, p.Key, p.Val)
		}
		wantWell(t, b, x, m)
		wantPairs(t, x, m)
		for _, p := range out {
			drop(t, x, m, p.Key, p.Val)
			wantWell(t, b, x, m)
		}
		wantEmpty(t, b, x)
	}
}

// P12.5: keys whose highest bits are the same up to MaxDepth: no bit parts
// them, so their chain grows, and nothing else.
func TestSameBits(t *testing.T) {
	keys := keysAt("0110100101", 6)
	b, x := made(t, 4)
	m := pairs{}
	for i, key := range keys {
		put(t, x, m, key, big(i))
		wantChain(t, wantWell(t, b, x, m), key, i+1, 0, i+3, 0)
	}
	for i, key := range slices.Backward(keys) {
		drop(t, x, m, key, big(i))
		wantChain(t, wantWell(t, b, x, m), key, max(i, 1), 0, max(i, 1)+2, 0)
	}
}

// P12.5: two keys that part by the bit at a place alone: each bit up to there
// leaves an empty side, and the last one parts them. The tenth bit does, the
// eleventh doesn't. When one goes, all is as it was.
func TestPartingBit(t *testing.T) {
	const ahead = "01101001011"
	for at := range 11 {
		first, second := ahead[:at]+"0", ahead[:at]+"1"
		b, x := made(t, 4)
		m := pairs{}
		put(t, x, m, keyAt(first), big(0))
		put(t, x, m, keyAt(second), big(1))
		v := wantWell(t, b, x, m)
		switch {
		case at == 10:
			wantChain(t, v, keyAt(first), 2, 0, 4, 0)
		default:
			dirs := len(v.dirs)
			if want := (2<<(at+1) + room - 1) / room; dirs != want {
				t.Fatalf("%d pages of the directory at depth %d", dirs, at+1)
			}
			wantChain(t, v, keyAt(first), 1, at+1, at+2+dirs+1, at+1)
			wantChain(t, v, keyAt(second), 1, at+1, at+2+dirs+1, at+1)
		}
		wantPairs(t, x, m)
		drop(t, x, m, keyAt(second), big(1))
		wantChain(t, wantWell(t, b, x, m), keyAt(first), 1, 0, 3, 0)
		drop(t, x, m, keyAt(first), big(0))
		wantEmpty(t, b, x)
	}
}

// P12.5: a directory of nine pages (Depth 10), which are just its own, found
// again by Open, and given up when it halves.
func TestDeepDirectory(t *testing.T) {
	b, x := made(t, 3)
	m := pairs{}
	for _, ahead := range []string{"000000000", "111111111", "101010101", "000011110"} {
		put(t, x, m, keyAt(ahead+"0"), big(0))
		put(t, x, m, keyAt(ahead+"1"), big(1))
	}
	v := wantWell(t, b, x, m)
	if v.depth != 10 || len(v.dirs) != 9 {
		t.Fatal(v.depth, len(v.dirs))
	}
	for i := range 200 {
		put(t, x, m, fmt.Sprint("more", i), numbered(i, 100))
	}
	wantWell(t, b, x, m)
	y := open(t, b, x.Head())
	wantWell(t, b, y, m)
	wantPairs(t, y, m)
	for _, p := range m.sorted() {
		drop(t, y, m, p.Key, p.Val)
	}
	wantEmpty(t, b, y)
}

// P12.5: all 1024 chains, and pages behind them where no bit is left.
func TestFullDirectory(t *testing.T) {
	b, x := made(t, 64)
	m := pairs{}
	count := map[int]int{}
	for i := 0; len(count) < 1024 || i < 2200; i++ {
		key := fmt.Sprint("f", i)
		if top := topOf(key, 10); count[top] < 2 {
			count[top]++
			put(t, x, m, key, big(i))
		}
		if len(m) > 2800 {
			t.Fatal("too many")
		}
	}
	v := wantWell(t, b, x, m)
	if v.depth != 10 || len(v.ids()) > 1034+len(m) {
		t.Fatal(v.depth, len(v.ids()))
	}
	wantPairs(t, x, m)
	for _, p := range m.sorted() {
		drop(t, x, m, p.Key, p.Val)
	}
	wantEmpty(t, b, x)
}

// P12.5: a chain of several pages that a key with other bits parts leaves more
// than a page on a side; when that key goes, nothing is left of it.
func TestPartedChain(t *testing.T) {
	same, other := keysAt("1100110011", 3), keyAt("1101")
	b, x := made(t, 4)
	m := pairs{}
	for i, key := range same {
		put(t, x, m, key, big(i))
	}
	put(t, x, m, other, big(3))
	v := wantWell(t, b, x, m)
	// empty sides at the depths 1, 2 and 3, and both sides at 4
	wantChain(t, v, same[0], 3, 4, 1+1+3+3+1, 4)
	wantChain(t, v, other, 1, 4, 9, 4)
	wantPairs(t, x, m)
	drop(t, x, m, other, big(3))
	wantChain(t, wantWell(t, b, x, m), same[0], 3, 0, 5, 0)

	// one that has room is put there, whatever its bits are
	put(t, x, m, other, "small")
	wantChain(t, wantWell(t, b, x, m), other, 3, 0, 5, 0)
	put(t, x, m, other, big(4))
	wantChain(t, wantWell(t, b, x, m), other, 1, 4, 9, 4)
	wantPairs(t, x, m)
	for i, key := range same {
		drop(t, x, m, key, big(i))
		wantWell(t, b, x, m)
	}
	wantChain(t, wantWell(t, b, x, m), other, 1, 0, 3, 0)
}

// P12.5: one that is parted, and has more than a page on a side that further
// bits part, is parted by these, too.
func TestPartedFurther(t *testing.T) {
	b, x := made(t, 4)
	m := pairs{}
	keys := []string{keyAt("0000000000"), keyAt("0000000001"), keyAt("0000100000"), keyAt("0001000000")}
	for i, key := range keys {
		put(t, x, m, key, numbered(i, 40))
	}
	put(t, x, m, keyAt("1"), strings.Repeat("x", 160))
	v := wantWell(t, b, x, m)
	wantChain(t, v, keyAt("1"), 1, 1, 4, 1)
	put(t, x, m, keysAt("0000000000", 2)[1], strings.Repeat("y", 160))
	v = wantWell(t, b, x, m)
	for _, c := range v.chains {
		if len(c.ids) > 1 {
			t.Errorf("a chain of %d pages", len(c.ids))
		}
	}
	wantPairs(t, x, m)
}

// P12.5: two chains of a page each are made one as soon as they fit into it, to
// the byte, and not ahead of that.
func TestMadeOne(t *testing.T) {
	zero, one := keyAt("0"), keyAt("1")
	for _, more := range []int{0, 1} {
		b, x := made(t, 4)
		m := pairs{}
		// 246 = 4 + 2 pairs of 121 bytes
		put(t, x, m, zero, strings.Repeat("a", 119-len(zero)))
		put(t, x, m, one, strings.Repeat("b", 119-len(one)+more))
		put(t, x, m, one, "c")
		wantChain(t, wantWell(t, b, x, m), zero, 1, 1, 4, 1)
		drop(t, x, m, one, "c")
		wantChain(t, wantWell(t, b, x, m), zero, 1, more, 3+more, more)
		wantPairs(t, x, m)
	}
}

// P12.5: chains whose depths differ, or whose places part by another bit, are
// not made one.
func TestNotMadeOne(t *testing.T) {
	b, x := made(t, 4)
	m := pairs{}
	for i, digits := range []string{"000", "001", "01", "10", "11"} {
		put(t, x, m, keyAt(digits), strings.Repeat(string(rune('a'+i)), 150))
	}
	wantChain(t, wantWell(t, b, x, m), keyAt("01"), 1, 2, 7, 3)
	drop(t, x, m, keyAt("01"), strings.Repeat("c", 150))
	v := wantWell(t, b, x, m)
	wantChain(t, v, keyAt("01"), 1, 2, 7, 3)
	if len(v.chainOf(keyAt("01")).all()) != 0 {
		t.Error("pairs at 01")
	}
	drop(t, x, m, keyAt("001"), strings.Repeat("b", 150))
	wantChain(t, wantWell(t, b, x, m), keyAt("000"), 1, 1, 5, 2)
	drop(t, x, m, keyAt("11"), strings.Repeat("e", 150))
	wantChain(t, wantWell(t, b, x, m), keyAt("000"), 1, 1, 4, 1)
	wantPairs(t, x, m)
}

// P12.5: a chain of two pages that comes to fit into one with the other side is
// made one with it, in one step.
func TestTwoPagesMadeOne(t *testing.T) {
	zero, one := keyAt("0"), keyAt("1")
	b, x := made(t, 4)
	m := pairs{}
	put(t, x, m, zero, strings.Repeat("a", 150))
	put(t, x, m, zero, strings.Repeat("b", 150))
	put(t, x, m, one, strings.Repeat("c", 80))
	wantChain(t, wantWell(t, b, x, m), zero, 2, 0, 4, 0)
	put(t, x, m, one, strings.Repeat("d", 80))
	put(t, x, m, one, strings.Repeat("e", 80))
	wantChain(t, wantWell(t, b, x, m), zero, 2, 1, 6, 1)
	drop(t, x, m, one, strings.Repeat("d", 80))
	drop(t, x, m, one, strings.Repeat("e", 80))
	wantChain(t, wantWell(t, b, x, m), zero, 2, 1, 5, 1)
	drop(t, x, m, zero, strings.Repeat("a", 150))
	wantChain(t, wantWell(t, b, x, m), zero, 1, 0, 3, 0)
	wantPairs(t, x, m)
}

// P12.5, P12.6: pairs that come and go leave as many pages, and as many bits,
// as there were ahead of them.
func TestComeAndGo(t *testing.T) {
	r := rand.New(rand.NewSource(55))
	for round := range 12 {
		b, x := made(t, 6)
		m := pairs{}
		for i := range 4 + 3*round {
			put(t, x, m, fmt.Sprint("stays", i), strings.Repeat("s", 160-i))
		}
		kept := wantWell(t, b, x, m)
		guests := pairs{}
		for range 120 {
			key := fmt.Sprint("guest", r.Intn(9)*r.Intn(9))
			val := strings.Repeat("g", r.Intn(161))
			if _, there := guests[api.Pair{Key: key, Val: val}]; !there {
				put(t, x, guests, key, val)
			}
		}
		for p := range guests {
			drop(t, x, guests, p.Key, p.Val)
		}
		v := wantWell(t, b, x, m)
		if v.depth != kept.depth || len(v.ids()) != len(kept.ids()) {
			t.Errorf("%d pages at depth %d; ahead of it %d at %d", len(v.ids()), v.depth, len(kept.ids()), kept.depth)
		}
	}
}

// P12.5, P12.6: a long chain whose pages have lost pairs, and are little more
// than half full, takes fewer pages when it is laid anew: those that it does
// not need are given up.
func TestLaidAnew(t *testing.T) {
	r := rand.New(rand.NewSource(56))
	same, other := keyAt("0101010101"), keyAt("1")
	for range 15 {
		b, x := made(t, 8)
		m := pairs{}
		for i := range 130 {
			put(t, x, m, same, numbered(i, 3+r.Intn(40)))
		}
		for _, p := range m.sorted() {
			if r.Intn(9) < 4 {
				drop(t, x, m, p.Key, p.Val)
			}
		}
		before := wantWell(t, b, x, m)
		for i := range 2 {
			put(t, x, m, other, strings.Repeat(string(rune('a'+i)), 160))
			wantWell(t, b, x, m)
		}
		after := wantWell(t, b, x, m)
		if c, d := before.chainOf(same), after.chainOf(same); d.depth != 1 || len(d.ids) >= len(c.ids)-1 {
			t.Errorf("%d pages at depth %d; ahead of it %d", len(d.ids), d.depth, len(c.ids))
		}
		wantPairs(t, x, m)
		for i := range 2 {
			drop(t, x, m, other, strings.Repeat(string(rune('a'+i)), 160))
			wantWell(t, b, x, m)
		}
		wantPairs(t, x, m)
	}
}

// P12.6: what a Put or a Delete leaves as it is is not laid anew: of a pair
// that has room a bucket and the head alone.
func TestNoMoreThanNeeded(t *testing.T) {
	b, x := made(t, 64)
	m := pairs{}
	for i := range 90 {
		put(t, x, m, fmt.Sprint("k", i), numbered(i, 60))
	}
	if x.Depth() < 3 {
		t.Fatal(x.Depth())
	}
	put(t, x, m, "k3", numbered(1, 60))
	drop(t, x, m, "k3", numbered(1, 60))
	checkErr(t, "Flush", b.p.Flush(), api.OK)
	ops := b.d.Ops()
	put(t, x, m, "k3", "")
	checkErr(t, "Flush", b.p.Flush(), api.OK)
	drop(t, x, m, "k3", "")
	checkErr(t, "Flush", b.p.Flush(), api.OK)
	if got := b.d.Ops() - ops; got != 4 {
		t.Errorf("%d blocks were written; want 4", got)
	}
}
