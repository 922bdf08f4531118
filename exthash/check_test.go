package exthash

import (
	"bytes"
	"fmt"
	"math/rand"
	"slices"
	"strings"
	"testing"

	"intarsia/api"
)

// raw lays a bucket's bytes, also of one that may not be.
func raw(depth, next int, l ...api.Pair) []byte {
	b := []byte{byte(depth), byte(next >> 8), byte(next), byte(len(l))}
	for _, p := range l {
		b = append(b, byte(len(p.Key)))
		b = append(b, p.Key...)
		b = append(b, byte(len(p.Val)))
		b = append(b, p.Val...)
	}
	return b
}

func pairOf(key string) api.Pair { return api.Pair{Key: key, Val: "v"} }

// hand is a table that is laid by hand: its buckets' bodies, and the slots as
// places among them.
type hand struct {
	depth   int
	count   int
	slots   []int
	buckets [][]byte // Next told as a place among them, from 1 on
}

// lay lays it upon pages, and tells its head. As nothing else is upon the disk,
// the bucket at a place has the id that is one more.
func (h hand) lay(t *testing.T, b bed) int {
	t.Helper()
	for i, body := range h.buckets {
		if id, err := b.p.Alloc(kindOf, body); id != i+1 || err != api.OK {
			t.Fatal(id, int(err))
		}
	}
	var slots []byte
	for _, place := range h.slots {
		slots = append(slots, byte((place+1)>>8), byte(place+1))
	}
	var dirs []int
	for piece := range slices.Chunk(slots, room) {
		id, _ := b.p.Alloc(dirKind, piece)
		dirs = append(dirs, id)
	}
	return headOf(b.p, h.depth, h.count, dirs...)
}

// sides are keys by their two highest bits.
func sides() [4][]string {
	return [4][]string{keysAt("00", 9), keysAt("01", 9), keysAt("10", 9), keysAt("11", 9)}
}

func listOf(keys ...string) []api.Pair {
	var l []api.Pair
	for _, key := range keys {
		l = append(l, pairOf(key))
	}
	slices.SortFunc(l, rising)
	return l
}

// P12.4: tables as the section 'Words' says, though neither Put nor Delete
// would have made them so: Check tells OK, and all calls go on with them.
func TestCheckTakes(t *testing.T) {
	k := sides()
	for name, h := range map[string]hand{
		"empty":                       {0, 0, []int{0}, [][]byte{raw(0, 0)}},
		"one pair":                    {0, 1, []int{0}, [][]byte{raw(0, 0, pairOf("k"))}},
		"a directory that is doubled": {2, 1, []int{0, 0, 0, 0}, [][]byte{raw(0, 0, pairOf("k"))}},
		"two that would fit into one": {1, 2, []int{0, 1}, [][]byte{raw(1, 0, pairOf(k[0][0])), raw(1, 0, pairOf(k[3][0]))}},
		"empty sides":                 {2, 0, []int{0, 1, 2, 2}, [][]byte{raw(2, 0), raw(2, 0), raw(1, 0)}},
		"a chain with empty pages":    {0, 1, []int{0}, [][]byte{raw(0, 2), raw(0, 3, pairOf("k")), raw(0, 0)}},
		"a chain of parted keys":      {0, 4, []int{0}, [][]byte{raw(0, 2, listOf(k[0][0], k[3][0])...), raw(0, 0, listOf(k[1][0], k[2][0])...)}},
		"ids in another order":        {1, 2, []int{2, 1}, [][]byte{raw(1, 0), raw(1, 1, pairOf(k[2][0])), raw(1, 0, pairOf(k[0][0]))}},
	} {
		b := bedOf(t, 300, 3)
		head := h.lay(t, b)
		x := open(t, b, head)
		checkErr(t, name, x.Check(), api.OK)
		m := pairs{}
		for _, c := range look(t, b.p, head).chains {
			for _, p := range c.all() {
				m[p] = struct{}{}
			}
		}
		if x.Len() != h.count || x.Depth() != h.depth || len(m) != h.count {
			t.Error(name, x.Len(), x.Depth())
		}
		if ids, err := x.Pages(); !slices.Equal(ids, b.s.IDs()) || err != api.OK {
			t.Error(name, ids, int(err))
		}
		wantPairs(t, x, m)
		for i := range 60 {
			put(t, x, m, fmt.Sprint("more", i), numbered(i, 20))
			checkErr(t, name, x.Check(), api.OK)
		}
		wantPairs(t, x, m)
		wantWords(t, look(t, b.p, head), m)
		for _, p := range m.sorted() {
			drop(t, x, m, p.Key, p.Val)
			checkErr(t, name, x.Check(), api.OK)
			wantWords(t, look(t, b.p, head), m)
		}
		if ids, _ := x.Pages(); !slices.Equal(ids, b.s.IDs()) {
			t.Error(name, ids, b.s.IDs())
		}
	}
}

// P12.4: pages that are not as the section 'Words' says: ErrForm, and the table
// is not bad, as the pool told no error.
func TestCheckRefuses(t *testing.T) {
	k := sides()
	zero, one := k[0][0], k[3][0]
	for name, h := range map[string]hand{
		"a count too high":           {0, 2, []int{0}, [][]byte{raw(0, 0, pairOf("k"))}},
		"a count too low":            {0, 0, []int{0}, [][]byte{raw(0, 0, pairOf("k"))}},
		"a count of three bytes":     {0, 1 << 16, []int{0}, [][]byte{raw(0, 0)}},
		"a key of another side":      {1, 1, []int{0, 1}, [][]byte{raw(1, 0, pairOf(one)), raw(1, 0)}},
		"a key of another side, too": {1, 1, []int{0, 1}, [][]byte{raw(1, 0), raw(1, 0, pairOf(zero))}},
		"one behind a right one":     {1, 2, []int{0, 1}, [][]byte{raw(1, 2, pairOf(zero)), raw(1, 0, pairOf(one))}},
		"a depth too high":           {0, 0, []int{0}, [][]byte{raw(1, 0)}},
		"a depth far too high":       {1, 0, []int{0, 1}, [][]byte{raw(1, 0), raw(10, 0)}},
		"a depth that may not be":    {0, 0, []int{0}, [][]byte{raw(11, 0)}},
		"a depth too low":            {1, 0, []int{0, 1}, [][]byte{raw(0, 0), raw(1, 0)}},
		"two depths too low":         {1, 0, []int{0, 1}, [][]byte{raw(0, 0), raw(0, 0)}},
		"two slots of one depth":     {1, 0, []int{0, 0}, [][]byte{raw(1, 0)}},
		"a slot of another side":     {2, 0, []int{0, 0, 1, 0}, [][]byte{raw(1, 0), raw(2, 0)}},
		"a run that begins too late": {2, 0, []int{0, 1, 1, 2}, [][]byte{raw(2, 0), raw(1, 0), raw(2, 0)}},
		"depths that differ":         {1, 0, []int{0, 0}, [][]byte{raw(0, 2), raw(1, 0)}},
		"depths that differ later":   {0, 0, []int{0}, [][]byte{raw(0, 2), raw(0, 3), raw(1, 0)}},
		"a pair twice":               {0, 2, []int{0}, [][]byte{raw(0, 2, pairOf("k")), raw(0, 0, pairOf("k"))}},
		"a pair twice on a page":     {0, 2, []int{0}, [][]byte{raw(0, 0, pairOf("k"), pairOf("k"))}},
		"a chain that goes round":    {0, 0, []int{0}, [][]byte{raw(0, 1)}},
		"one that goes round later":  {0, 0, []int{0}, [][]byte{raw(0, 2), raw(0, 3), raw(0, 2)}},
		"two chains with one end":    {1, 0, []int{0, 1}, [][]byte{raw(1, 3), raw(1, 3), raw(1, 0)}},
		"a chain within another":     {1, 0, []int{0, 1}, [][]byte{raw(1, 2), raw(1, 0)}},
		"the directory in a chain":   {0, 0, []int{0}, [][]byte{raw(0, 2)}},
		"the head in a chain":        {0, 0, []int{0}, [][]byte{raw(0, 3)}},
		"the head as a slot":         {0, 0, []int{2}, [][]byte{raw(0, 0)}},
		"the directory as a slot":    {0, 0, []int{1}, [][]byte{raw(0, 0)}},
		"no bucket's bytes":          {0, 0, []int{0}, [][]byte{{0, 0, 0, 1}}},
		"a byte too many":            {0, 0, []int{0}, [][]byte{{0, 0, 0, 0, 0}}},
		"no bytes":                   {0, 0, []int{0}, [][]byte{nil}},
		"no bucket behind one":       {0, 1, []int{0}, [][]byte{raw(0, 2, pairOf("k")), {9}}},
	} {
		b := bedOf(t, 300, 3)
		head := h.lay(t, b)
		x := open(t, b, head)
		kept := memory(t, b)
		checkErr(t, name, x.Check(), api.ErrForm)
		if x.Bad() || x.Len() != h.count || x.Depth() != h.depth || memory(t, b) != kept {
			t.Errorf("%s: bad %v, or changed", name, x.Bad())
		}
		checkErr(t, name+", once more", x.Check(), api.ErrForm)
	}
}

// P12.2, P12.4: a slot, or a Next, that tells no page is the pool's error.
func TestCheckNoPage(t *testing.T) {
	for name, h := range map[string]hand{
		"a slot": {0, 0, []int{98}, nil},
		"a Next": {0, 0, []int{0}, [][]byte{raw(0, 99)}},
	} {
		for _, c := range calls() {
			b := bedOf(t, 300, 3)
			x := open(t, b, h.lay(t, b))
			if told, err := c.do(x); told != "false" || err != api.ErrNone || !x.Bad() {
				t.Errorf("%s, %s: tells something: %s, error %d, bad %v", name, c.name, told, int(err), x.Bad())
			}
			wantRefused(t, name, x, api.ErrState)
		}
	}
}

// Each call that meets a page which is none answers ErrForm, and changes
// nothing; the table is not bad.
func TestFormOfCalls(t *testing.T) {
	h := hand{0, 1, []int{0}, [][]byte{raw(0, 2, api.Pair{Key: "k", Val: "v"}), {9}}}
	b := bedOf(t, 300, 3)
	x := open(t, b, h.lay(t, b))
	kept := memory(t, b)
	wantRefused(t, "no bucket behind one", x, api.ErrForm)
	if x.Bad() || memory(t, b) != kept {
		t.Error("bad, or changed")
	}
	checkErr(t, "Set", b.p.Set(2, kindOf, raw(0, 0)), api.OK)
	checkErr(t, "mended", x.Check(), api.OK)
	put(t, x, pairs{}, "l", "v")

	checkErr(t, "Set", b.p.Set(x.Head(), headKind, []byte{9}), api.OK)
	kept = memory(t, b)
	wantRefused(t, "no head any more", x, api.ErrForm)
	if x.Bad() || memory(t, b) != kept || x.Len() != 2 {
		t.Error("bad, or changed")
	}
}

// A Delete that would make chains one reads what it makes one with first: what
// is none there is told ahead of all changes.
func TestFormOfOtherSide(t *testing.T) {
	k := sides()
	zero := api.Pair{Key: k[0][0], Val: "v"}
	for name, h := range map[string]hand{
		"no bucket":                {1, 1, []int{0, 1}, [][]byte{raw(1, 0, zero), {9}}},
		"a depth too high":         {1, 1, []int{0, 1}, [][]byte{raw(1, 0, zero), raw(2, 0)}},
		"its own page":             {1, 1, []int{0, 0}, [][]byte{raw(1, 0, zero)}},
		"an end that both have":    {1, 1, []int{0, 1}, [][]byte{raw(1, 3, zero), raw(1, 3), raw(1, 0)}},
		"no bucket behind the one": {1, 2, []int{0, 1}, [][]byte{raw(1, 0, zero), raw(1, 3, pairOf(k[2][0])), {9}}},
		"a count too low":          {1, 0, []int{0, 1}, [][]byte{raw(1, 0, zero), raw(1, 0)}},
	} {
		b := bedOf(t, 300, 3)
		x := open(t, b, h.lay(t, b))
		kept := memory(t, b)
		if ok, err := x.Delete(zero.Key, zero.Val); ok || err != api.ErrForm || x.Bad() || memory(t, b) != kept {
			t.Errorf("%s: %v, error %d, bad %v, or changed", name, ok, int(err), x.Bad())
		}
	}
}

// A head's count that has no room for one more: what a Put would lay is none.
func TestFormOfCount(t *testing.T) {
	b := bedOf(t, 300, 3)
	x := open(t, b, hand{0, 1<<24 - 1, []int{0}, [][]byte{raw(0, 0)}}.lay(t, b))
	kept := memory(t, b)
	if ok, err := x.Put("k", "v"); ok || err != api.ErrForm || x.Bad() || memory(t, b) != kept || x.Len() != 1<<24-1 {
		t.Error(ok, int(err), x.Bad(), x.Len())
	}
	x = open(t, b, headOf(b.p, 0, 1<<24-2, 2))
	if ok, err := x.Put("k", "v"); !ok || err != api.OK || x.Len() != 1<<24-1 {
		t.Error(ok, int(err), x.Len())
	}
}

// Rule 1: pairs that belong to other chains, which no bit of those that are
// left would part from one another: a Put ends.
func TestWrongKeysDeep(t *testing.T) {
	for depth := range 11 {
		var slots []int
		for place := range 1 << depth {
			slots = append(slots, min(place, 1))
		}
		l := []api.Pair{{Key: "a", Val: big(0)}, {Key: "b", Val: numbered(0, 90)}}
		h := hand{depth, 2, slots, [][]byte{raw(depth, 0, l...), raw(depth, 0)}}
		b := bedOf(t, 300, 3)
		x := open(t, b, h.lay(t, b))
		if ok, err := x.Put(keyAt(strings.Repeat("0", depth)), big(1)); !ok || err != api.OK {
			t.Errorf("depth %d: %v, error %d", depth, ok, int(err))
		}
	}
}

// Rule 1: a table some bytes of which were changed: no call panics, each ends,
// and one that answers ErrForm while the table is not bad changed nothing.
func TestChangedBytes(t *testing.T) {
	r := rand.New(rand.NewSource(12))
	for range 120 {
		b := bedOf(t, 400, 1+r.Intn(9))
		x := create(t, b)
		for i := range r.Intn(60) {
			x.Put(fmt.Sprint("k", i%9), numbered(i, r.Intn(100)))
		}
		for range 1 + r.Intn(4) {
			ids := b.s.IDs()
			id := ids[r.Intn(len(ids))]
			kind, body, _ := b.p.Get(id)
			if len(body) > 0 {
				body[r.Intn(min(len(body), 1+r.Intn(len(body))))] = byte(r.Intn(1 + r.Intn(256)))
			}
			if r.Intn(5) == 0 {
				body = bytes.Repeat(body, 2)[:min(r.Intn(2*len(body)+1), room)]
			}
			b.p.Set(id, kind, body)
		}
		for range 15 {
			y, err := Open(b.p, x.Head())
			if err != api.OK {
				break
			}
			kept := memory(t, b)
			key, val := fmt.Sprint("k", r.Intn(12)), numbered(r.Intn(60), r.Intn(100))
			for _, do := range []func() api.Errno{
				func() api.Errno { _, err := y.Put(key, val); return err },
				func() api.Errno { _, err := y.Delete(key, val); return err },
				func() api.Errno { _, err := y.Get(key); return err },
				func() api.Errno { _, err := y.Scan(strings.Repeat("k", r.Intn(2))); return err },
				func() api.Errno { _, err := y.Pages(); return err },
				y.Check,
			} {
				if err := do(); err == api.ErrForm && !y.Bad() && memory(t, b) != kept {
					t.Fatal("changed")
				}
				kept = memory(t, b)
			}
		}
	}
}
