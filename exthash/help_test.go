package exthash

import (
	"bytes"
	"fmt"
	"maps"
	"slices"
	"strconv"
	"strings"
	"testing"

	"intarsia/api"
	"intarsia/disk"
	"intarsia/mix"
	"intarsia/pool"
	"intarsia/shadow"
)

const (
	room     = 246 // bytes of a page's body
	most     = 10  // bits that a directory may have
	headKind = 3
	dirKind  = 4
	kindOf   = 5 // a bucket's
)

func checkErr(t *testing.T, what string, got, want api.Errno) {
	t.Helper()
	if got != want {
		t.Errorf("%s: error %d; want %d", what, int(got), int(want))
	}
}

// bed is a disk, and what stands upon it.
type bed struct {
	d *disk.Disk
	s *shadow.Shadow
	p *pool.Pool
}

func bedOf(t *testing.T, blocks, frames int) bed {
	t.Helper()
	d := disk.New(blocks)
	s, err := shadow.Format(d)
	checkErr(t, "Format", err, api.OK)
	p, err := pool.New(s, frames)
	checkErr(t, "New", err, api.OK)
	return bed{d, s, p}
}

// made is a table without pairs upon a disk with plenty of room.
func made(t *testing.T, frames int) (bed, *Table) {
	t.Helper()
	b := bedOf(t, 4096, frames)
	return b, create(t, b)
}

func create(t *testing.T, b bed) *Table {
	t.Helper()
	x, err := Create(b.p)
	if x == nil || err != api.OK {
		t.Fatalf("Create: error %d", int(err))
	}
	return x
}

func open(t *testing.T, b bed, head int) *Table {
	t.Helper()
	x, err := Open(b.p, head)
	if x == nil || err != api.OK {
		t.Fatalf("Open(%d): error %d", head, int(err))
	}
	return x
}

// again is the disk behind a failure of its power, opened anew.
func again(t *testing.T, b bed, frames int, fate []byte) bed {
	t.Helper()
	b.d.Crash(fate)
	s, err := shadow.Open(b.d)
	checkErr(t, "shadow.Open", err, api.OK)
	p, err := pool.New(s, frames)
	checkErr(t, "New", err, api.OK)
	return bed{b.d, s, p}
}

// pairs is what was put and not deleted.
type pairs map[api.Pair]struct{}

func (m pairs) sorted() []api.Pair {
	l := slices.Collect(maps.Keys(m))
	slices.SortFunc(l, rising)
	return l
}

// rising doesn't lean on bucket.Less.
func rising(a, b api.Pair) int {
	if c := strings.Compare(a.Key, b.Key); c != 0 {
		return c
	}
	return strings.Compare(a.Val, b.Val)
}

func put(t *testing.T, x *Table, m pairs, key, val string) {
	t.Helper()
	p := api.Pair{Key: key, Val: val}
	_, there := m[p]
	if ok, err := x.Put(key, val); ok == there || err != api.OK {
		t.Fatalf("Put(%q, of %d bytes) = %v, error %d", key, len(val), ok, int(err))
	}
	m[p] = struct{}{}
}

func drop(t *testing.T, x *Table, m pairs, key, val string) {
	t.Helper()
	p := api.Pair{Key: key, Val: val}
	_, there := m[p]
	if ok, err := x.Delete(key, val); ok != there || err != api.OK {
		t.Fatalf("Delete(%q, of %d bytes) = %v, error %d", key, len(val), ok, int(err))
	}
	delete(m, p)
}

// topOf tells the highest bits of a key, one by one.
func topOf(key string, depth int) int {
	n := 0
	for at := range depth {
		n = 2*n + mix.Bit(mix.Of(key), at)
	}
	return n
}

// keysAt tells so many keys whose highest bits, so many as there are digits,
// are these, and which differ by their texts alone up to there.
func keysAt(digits string, count int) []string {
	want, _ := strconv.ParseInt("0"+digits, 2, 32)
	var l []string
	for i := 0; len(l) < count; i++ {
		if key := "k" + strconv.Itoa(i); topOf(key, len(digits)) == int(want) {
			l = append(l, key)
		}
	}
	return l
}

func keyAt(digits string) string { return keysAt(digits, 1)[0] }

// big is a value of which no two fit into a page.
func big(n int) string { return strings.Repeat(string(rune('a'+n%26)), 130) }

// numbered is a value of a length that tells n.
func numbered(n, length int) string { return fmt.Sprintf("%0*d", length, n) }

// view is what a table's pages have, byte by byte.
type view struct {
	head   int
	depth  int
	count  int
	dirs   []int
	slots  []int
	chains map[int]*chainView // by their first pages
}

type chainView struct {
	depth  int
	ids    []int
	pages  [][]api.Pair
	places []int // of the slots
}

// look reads a table's pages without any call of the layers between.
func look(t *testing.T, p *pool.Pool, head int) view {
	t.Helper()
	b := bodyOf(t, p, head, headKind)
	if len(b) < 5 || len(b) != 5+2*int(b[4]) {
		t.Fatalf("head of %d bytes: % x", len(b), b)
	}
	v := view{head: head, depth: int(b[0]), count: word(b[1:])*256 + int(b[3]), chains: map[int]*chainView{}}
	var slots []byte
	for i := range int(b[4]) {
		id := word(b[5+2*i:])
		v.dirs = append(v.dirs, id)
		piece := bodyOf(t, p, id, dirKind)
		if i+1 < int(b[4]) && len(piece) != room {
			t.Fatalf("a piece of the directory has %d bytes", len(piece))
		}
		slots = append(slots, piece...)
	}
	if len(slots) != 2<<v.depth {
		t.Fatalf("a directory of %d bytes at depth %d", len(slots), v.depth)
	}
	for place := range 1 << v.depth {
		id := word(slots[2*place:])
		v.slots = append(v.slots, id)
		if v.chains[id] == nil {
			v.chains[id] = lookChain(t, p, id)
		}
		v.chains[id].places = append(v.chains[id].places, place)
	}
	return v
}

func word(b []byte) int { return int(b[0])*256 + int(b[1]) }

func bodyOf(t *testing.T, p *pool.Pool, id, kind int) []byte {
	t.Helper()
	k, b, err := p.Get(id)
	if k != kind || err != api.OK {
		t.Fatalf("page %d: kind %d, error %d; want kind %d", id, k, int(err), kind)
	}
	return b
}

func lookChain(t *testing.T, p *pool.Pool, id int) *chainView {
	t.Helper()
	c := &chainView{}
	for id != 0 {
		if slices.Contains(c.ids, id) {
			t.Fatalf("page %d stands twice in a chain", id)
		}
		b := bodyOf(t, p, id, kindOf)
		if len(c.ids) > 0 && c.depth != int(b[0]) {
			t.Fatalf("depths %d and %d in one chain", c.depth, b[0])
		}
		c.depth = int(b[0])
		c.ids = append(c.ids, id)
		id = word(b[1:])
		var l []api.Pair
		left := b[4:]
		for range b[3] {
			key := string(left[1 : 1+left[0]])
			left = left[1+left[0]:]
			val := string(left[1 : 1+left[0]])
			left = left[1+left[0]:]
			l = append(l, api.Pair{Key: key, Val: val})
		}
		if len(left) > 0 {
			t.Fatalf("page %d has %d bytes more", c.ids[len(c.ids)-1], len(left))
		}
		c.pages = append(c.pages, l)
	}
	return c
}

func (c *chainView) all() []api.Pair { return slices.Concat(c.pages...) }

// bytesOf tells how many bytes a page with these pairs has.
func bytesOf(lists ...[]api.Pair) int {
	n := 4
	for _, l := range lists {
		for _, p := range l {
			n += 2 + len(p.Key) + len(p.Val)
		}
	}
	return n
}

// bitParts tells whether some bit from a depth on, up to the last one that
// counts, parts pairs.
func bitParts(l []api.Pair, depth int) bool {
	for at := depth; at < most; at++ {
		for _, p := range l {
			if mix.Bit(mix.Of(p.Key), at) != mix.Bit(mix.Of(l[0].Key), at) {
				return true
			}
		}
	}
	return false
}

func (v view) chainOf(key string) *chainView { return v.chains[v.slots[topOf(key, v.depth)]] }

func (v view) ids() []int {
	l := append([]int{v.head}, v.dirs...)
	for _, c := range v.chains {
		l = append(l, c.ids...)
	}
	slices.Sort(l)
	return l
}

// wantWell tells whether a table's pages, and all that it tells, are as the
// chapter says, of just these pairs.
func wantWell(t *testing.T, b bed, x *Table, m pairs) view {
	t.Helper()
	v := look(t, b.p, x.Head())
	wantWords(t, v, m)
	wantShape(t, v)
	wantLooks(t, b, x, v, m)
	return v
}

func wantLooks(t *testing.T, b bed, x *Table, v view, m pairs) {
	t.Helper()
	if x.Len() != len(m) || x.Depth() != v.depth || x.Bad() {
		t.Fatalf("Len %d, Depth %d, Bad %v; want %d, %d, false", x.Len(), x.Depth(), x.Bad(), len(m), v.depth)
	}
	checkErr(t, "Check", x.Check(), api.OK)
	ids, err := x.Pages()
	if !slices.Equal(ids, v.ids()) || !slices.Equal(ids, b.s.IDs()) || err != api.OK {
		t.Fatalf("Pages %v, error %d; met %v, there are %v", ids, int(err), v.ids(), b.s.IDs())
	}
}

// wantWords: the chapter's section 'Words'.
func wantWords(t *testing.T, v view, m pairs) {
	t.Helper()
	count := 0
	for first, c := range v.chains {
		run := 1 << (v.depth - c.depth)
		prefix := c.places[0] / run
		if c.depth > v.depth || len(c.places) != run || c.places[0] != prefix*run || c.places[run-1] != prefix*run+run-1 {
			t.Fatalf("chain %d of depth %d at the places %v of depth %d", first, c.depth, c.places, v.depth)
		}
		for _, l := range c.pages {
			if !slices.IsSortedFunc(l, rising) || bytesOf(l) > room {
				t.Fatalf("chain %d: a page has %v", first, l)
			}
			for _, p := range l {
				if _, ok := m[p]; !ok || topOf(p.Key, c.depth) != prefix {
					t.Fatalf("chain %d of the prefix %d: %v, which is there: %v", first, prefix, p, ok)
				}
			}
			count += len(l)
		}
		all := pairs{}
		for _, p := range c.all() {
			all[p] = struct{}{}
		}
		if len(all) != len(c.all()) {
			t.Fatalf("chain %d: a pair stands twice", first)
		}
	}
	if count != len(m) || v.count != count || len(slices.Compact(v.ids())) != len(v.ids()) {
		t.Fatalf("%d pairs upon %v, and the head tells %d; want %d", count, v.ids(), v.count, len(m))
	}
}

// wantShape: what P12.5 says of a table whose pages all came by Put and Delete.
func wantShape(t *testing.T, v view) {
	t.Helper()
	deepest := 0
	for first, c := range v.chains {
		deepest = max(deepest, c.depth)
		for i, a := range c.pages {
			for _, b := range c.pages[:i] {
				if bytesOf(a, b) <= room {
					t.Fatalf("chain %d: two pages that fit into one", first)
				}
			}
		}
		if c.depth == 0 {
			continue
		}
		o := v.chains[v.slots[c.places[0]^len(c.places)]]
		if o.depth == c.depth && (bytesOf(c.all(), o.all()) <= room || len(c.all()) == 0) {
			t.Fatalf("chains %d and %d are not made one", first, o.ids[0])
		}
	}
	if v.depth != deepest {
		t.Fatalf("depth %d, but no chain is deeper than %d", v.depth, deepest)
	}
}

// wantPairs tells whether a table tells just these pairs, by each of its calls.
func wantPairs(t *testing.T, x *Table, m pairs) {
	t.Helper()
	l := m.sorted()
	got, err := x.Scan("")
	if !slices.Equal(got, l) || err != api.OK {
		t.Fatalf("Scan: %d pairs, error %d; want %d", len(got), int(err), len(l))
	}
	vals := map[string][]string{}
	for _, p := range l {
		vals[p.Key] = append(vals[p.Key], p.Val)
		if ok, err := x.Has(p.Key, p.Val); !ok || err != api.OK {
			t.Fatalf("Has(%v) = %v, error %d", p, ok, int(err))
		}
	}
	for key, want := range vals {
		if got, err := x.Get(key); !slices.Equal(got, want) || err != api.OK {
			t.Fatalf("Get(%q) = %q, error %d; want %q", key, got, int(err), want)
		}
	}
}

// wantEmpty: three pages, and Depth 0.
func wantEmpty(t *testing.T, b bed, x *Table) {
	t.Helper()
	v := wantWell(t, b, x, pairs{})
	if v.depth != 0 || len(v.ids()) != 3 || x.Len() != 0 {
		t.Fatalf("without pairs: depth %d, pages %v, Len %d", v.depth, v.ids(), x.Len())
	}
}

// memory is all pages of a shadow as they stand, frames and all.
func memory(t *testing.T, b bed) string {
	t.Helper()
	var text bytes.Buffer
	for _, id := range b.s.IDs() {
		kind, body, err := b.p.Get(id)
		fmt.Fprintln(&text, id, kind, int(err), len(body))
		text.Write(body)
	}
	return text.String()
}

// call is a call that has an error, and what it tells beside it.
type call struct {
	name string
	do   func(x *Table) (told string, err api.Errno)
}

// calls are all of them.
func calls() []call {
	return []call{
		{"Put", func(x *Table) (string, api.Errno) { ok, err := x.Put("k", "v"); return fmt.Sprint(ok), err }},
		{"Delete", func(x *Table) (string, api.Errno) { ok, err := x.Delete("k", "v"); return fmt.Sprint(ok), err }},
		{"Has", func(x *Table) (string, api.Errno) { ok, err := x.Has("k", "v"); return fmt.Sprint(ok), err }},
		{"Get", func(x *Table) (string, api.Errno) { l, err := x.Get("k"); return fmt.Sprint(len(l) > 0), err }},
		{"Scan", func(x *Table) (string, api.Errno) { l, err := x.Scan(""); return fmt.Sprint(len(l) > 0), err }},
		{"Pages", func(x *Table) (string, api.Errno) { l, err := x.Pages(); return fmt.Sprint(len(l) > 0), err }},
		{"Check", func(x *Table) (string, api.Errno) { return "false", x.Check() }},
	}
}

// wantRefused tells whether each call answers this error, and nothing else.
func wantRefused(t *testing.T, what string, x *Table, want api.Errno) {
	t.Helper()
	for _, c := range calls() {
		if told, err := c.do(x); told != "false" || err != want {
			t.Errorf("%s: %s tells something: %s, error %d; want %d", what, c.name, told, int(err), int(want))
		}
	}
}
