package exthash

import (
	"fmt"
	"slices"
	"strings"
	"testing"

	"intarsia/api"
)

// The chapter's example.
func TestExample(t *testing.T) {
	b, x := made(t, 4)
	for _, val := range []string{"b", "a"} {
		if ok, err := x.Put("k", val); !ok || err != api.OK {
			t.Error(ok, int(err))
		}
	}
	if l, err := x.Get("k"); !slices.Equal(l, []string{"a", "b"}) || err != api.OK {
		t.Error(l, int(err))
	}
	if ok, err := x.Put("k", "a"); ok || err != api.OK {
		t.Error(ok, int(err))
	}
	if l, err := x.Pages(); !slices.Equal(l, []int{1, 2, 3}) || err != api.OK {
		t.Error(l, int(err))
	}
	wantWell(t, b, x, pairs{{Key: "k", Val: "a"}: {}, {Key: "k", Val: "b"}: {}})
}

// P12.3: keys and values as long as may be, and longer.
func TestLengths(t *testing.T) {
	b, x := made(t, 4)
	m := pairs{}
	for _, k := range []int{0, 1, 47, 48} {
		for _, v := range []int{0, 1, 159, 160} {
			put(t, x, m, strings.Repeat("k", k), strings.Repeat("v", v))
		}
	}
	wantWell(t, b, x, m)
	wantPairs(t, x, m)
	kept := memory(t, b)
	for _, n := range [][2]int{{49, 0}, {0, 161}, {49, 161}, {48, 161}, {49, 160}, {1000, 1}, {1, 100000}} {
		key, val := strings.Repeat("k", n[0]), strings.Repeat("v", n[1])
		for name, do := range map[string]func(key, val string) (bool, api.Errno){"Put": x.Put, "Delete": x.Delete, "Has": x.Has} {
			if ok, err := do(key, val); ok || err != api.ErrLong {
				t.Errorf("%s with %v bytes: %v, error %d", name, n, ok, int(err))
			}
		}
	}
	if x.Bad() || memory(t, b) != kept {
		t.Error("what is too long has changed something")
	}
	for _, n := range []int{49, 300} {
		long := strings.Repeat("k", n)
		if l, err := x.Get(long); len(l) > 0 || err != api.OK {
			t.Error(l, int(err))
		}
		if l, err := x.Scan(long); len(l) > 0 || err != api.OK {
			t.Error(l, int(err))
		}
	}
	for p := range m {
		drop(t, x, m, p.Key, p.Val)
	}
	wantEmpty(t, b, x)
}

// P12.3: whether a pair was there, and is; what is there already, or is not,
// changes no page.
func TestThereOrNot(t *testing.T) {
	b, x := made(t, 3)
	m := pairs{}
	for i := range 50 {
		put(t, x, m, fmt.Sprint("k", i%7), numbered(i, 20))
	}
	checkErr(t, "Commit", b.p.Commit(), api.OK)
	kept := memory(t, b)
	for p := range m {
		put(t, x, m, p.Key, p.Val)
		drop(t, x, m, p.Key, p.Val+" ")
		drop(t, x, m, p.Key+" ", p.Val)
		drop(t, x, m, p.Val, p.Key)
		for _, q := range []api.Pair{p, {Key: p.Key, Val: ""}, {Key: p.Key, Val: p.Val + "\x00"}, {Key: "", Val: p.Val}} {
			if ok, err := x.Has(q.Key, q.Val); ok != (q == p) || err != api.OK {
				t.Errorf("Has(%v) = %v, error %d", q, ok, int(err))
			}
		}
	}
	if memory(t, b) != kept {
		t.Error("pages have changed")
	}
	checkErr(t, "Flush", b.p.Flush(), api.OK)
	if b.s.Dirty() {
		t.Error("something was laid anew")
	}
	wantWell(t, b, x, m)
	for p := range m {
		drop(t, x, m, p.Key, p.Val)
		if ok, err := x.Has(p.Key, p.Val); ok || err != api.OK {
			t.Error(p, ok, int(err))
		}
		drop(t, x, m, p.Key, p.Val)
	}
	wantEmpty(t, b, x)
}

// P12.3: several values under one key, in whatever order they come: Get tells
// them rising, also where they stand on several pages, and no others.
func TestGet(t *testing.T) {
	b, x := made(t, 2)
	m := pairs{}
	var want []string
	for i := range 40 {
		val := numbered(i*17%40, 50)
		put(t, x, m, "same", val)
		put(t, x, m, fmt.Sprint("sam", i), val)
		put(t, x, m, "same"+fmt.Sprint(i), val)
		want = append(want, val)
	}
	slices.Sort(want)
	got, err := x.Get("same")
	if !slices.Equal(got, want) || err != api.OK {
		t.Error(got, int(err))
	}
	for _, key := range []string{"", "sa", "sam", "other", "same\x00"} {
		if l, err := x.Get(key); len(l) > 0 || err != api.OK {
			t.Error(key, l, int(err))
		}
	}
	wantWell(t, b, x, m)
}

// P12.3: bytes of all kinds, and values that are beginnings of others.
func TestAnyBytes(t *testing.T) {
	b, x := made(t, 3)
	m := pairs{}
	texts := []string{"", "\x00", "\x00\x00", "\xff", "\xff\xfe", "a", "ab", "b", "ä", strings.Repeat("\xff", 48)}
	for _, key := range texts {
		for _, val := range texts {
			put(t, x, m, key, val)
		}
	}
	wantWell(t, b, x, m)
	wantPairs(t, x, m)
}

// P12.3: Scan of the empty prefix, of a whole key, of the beginning of some,
// and of one that no key has.
func TestScan(t *testing.T) {
	_, x := made(t, 4)
	m := pairs{}
	for i := range 90 {
		put(t, x, m, fmt.Sprintf("%c%c%d", 'a'+i%3, 'a'+i%5, i), numbered(i, 9))
		put(t, x, m, fmt.Sprintf("%c%c%d", 'a'+i%3, 'a'+i%5, i), numbered(i*31%90, 8))
	}
	put(t, x, m, "", "of the empty key")
	put(t, x, m, "\xff", "\xff")
	all := m.sorted()
	prefixes := []string{"", "a", "ab", "ab1", "b", "c", "ca", "\xff", "\xff\xff", "d", "aa", "aaa", "A", strings.Repeat("a", 400)}
	for _, p := range all {
		prefixes = append(prefixes, p.Key)
	}
	for _, prefix := range prefixes {
		var want []api.Pair
		for _, p := range all {
			if len(p.Key) >= len(prefix) && p.Key[:len(prefix)] == prefix {
				want = append(want, p)
			}
		}
		got, err := x.Scan(prefix)
		if !slices.Equal(got, want) || err != api.OK {
			t.Errorf("Scan(%q): %d pairs, error %d; want %d", prefix, len(got), int(err), len(want))
		}
	}
}

// Rule 3: what is answered is new memory.
func TestOwnMemory(t *testing.T) {
	b, x := made(t, 64)
	m := pairs{}
	for i := range 30 {
		put(t, x, m, "k", numbered(i, 30))
	}
	vals, _ := x.Get("k")
	scanned, _ := x.Scan("k")
	ids, _ := x.Pages()
	for i := range vals[:cap(vals)] {
		vals[:cap(vals)][i] = "other"
	}
	for i := range scanned[:cap(scanned)] {
		scanned[:cap(scanned)][i] = api.Pair{Key: "k", Val: "other"}
	}
	for i := range ids[:cap(ids)] {
		ids[:cap(ids)][i] = 9
	}
	wantWell(t, b, x, m)
	wantPairs(t, x, m)
}
