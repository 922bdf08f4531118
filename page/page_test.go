package page

import (
	"bytes"
	"encoding/binary"
	"hash/crc32"
	"math"
	"slices"
	"testing"

	"intarsia/api"
)

// bodyOf tells a body of n bytes, none of them 0, so that it stands out of the
// zeros behind it.
func bodyOf(n int) []byte {
	b := make([]byte, n)
	for i := range b {
		b[i] = byte(1 + i%255)
	}
	return b
}

// laid tells a page's block by the chapter's words, and another library's sum;
// what it is given need not be what a page may have.
func laid(kind, id, length int, body []byte) []byte {
	b := []byte{byte(kind), byte(id >> 16), byte(id >> 8), byte(id), byte(length >> 8), byte(length)}
	b = append(b, body...)
	return sealed(append(b, make([]byte, 252-len(b))...))
}

// sealed puts the right sum behind 252 bytes, whatever these are.
func sealed(b []byte) []byte {
	own := slices.Clone(b[:252])
	return binary.BigEndian.AppendUint32(own, crc32.Checksum(own, crc32.MakeTable(crc32.Castagnoli)))
}

func seal(t *testing.T, kind, id int, body []byte) []byte {
	t.Helper()
	b, err := Seal(kind, id, body)
	if err != api.OK {
		t.Fatalf("Seal(%d, %d, %x): error %d", kind, id, body, err)
	}
	return b
}

func wantOpened(t *testing.T, b []byte, kind, id int, body []byte) {
	t.Helper()
	k, i, x, err := Open(b)
	if k != kind || i != id || !bytes.Equal(x, body) || err != api.OK {
		t.Errorf("Open(%x) = %d, %d, %x, error %d; want %d, %d, %x", b, k, i, x, err, kind, id, body)
	}
}

func wantRefused(t *testing.T, what string, b []byte, want api.Errno) {
	t.Helper()
	kind, id, body, err := Open(b)
	if kind != 0 || id != 0 || len(body) != 0 || err != want {
		t.Errorf("%s: Open = %d, %d, %x, error %d; want nothing, error %d", what, kind, id, body, err, want)
	}
}

func TestKindsHaveTheirNumbers(t *testing.T) {
	if kinds := []int{Table, Map, Head, Dir, Bucket}; !slices.Equal(kinds, []int{1, 2, 3, 4, 5}) {
		t.Error(kinds)
	}
	if Room != 246 {
		t.Error(Room)
	}
}

func TestSealOfTheExample(t *testing.T) {
	b := seal(t, 5, 258, []byte("ab"))
	if len(b) != 256 || !bytes.HasPrefix(b, []byte{5, 0, 1, 2, 0, 2, 0x61, 0x62}) {
		t.Fatalf("%x", b)
	}
	if !bytes.Equal(b[8:252], make([]byte, 244)) {
		t.Errorf("not zeros: %x", b[8:252])
	}
}

func TestSealLaysAndOpenReads(t *testing.T) {
	for _, kind := range []int{1, 2, 3, 4, 5} {
		for _, id := range []int{0, 1, 255, 256, 258, 2999, 3000} {
			for _, n := range []int{0, 1, 2, 128, 245, 246} {
				b := seal(t, kind, id, bodyOf(n))
				if want := laid(kind, id, n, bodyOf(n)); !bytes.Equal(b, want) {
					t.Errorf("Seal(%d, %d, of %d bytes) = %x, want %x", kind, id, n, b, want)
				}
				wantOpened(t, b, kind, id, bodyOf(n))
			}
		}
	}
}

func TestSealOfEveryLength(t *testing.T) {
	for n := range Room + 1 {
		wantOpened(t, seal(t, Head, 77, bodyOf(n)), Head, 77, bodyOf(n))
	}
}

// Zeros at a body's end are the body's own, and not what fills the block.
func TestSealKeepsZerosOfABody(t *testing.T) {
	for _, n := range []int{1, 2, 245, 246} {
		b := seal(t, Map, 3, make([]byte, n))
		if want := laid(Map, 3, n, nil); !bytes.Equal(b, want) {
			t.Errorf("%d zeros: %x", n, b)
		}
		wantOpened(t, b, Map, 3, make([]byte, n))
	}
	wantOpened(t, seal(t, Map, 3, []byte{0, 7, 0}), Map, 3, []byte{0, 7, 0})
}

func TestSealOfNoBody(t *testing.T) {
	none := seal(t, Table, 0, nil)
	if !bytes.Equal(none, seal(t, Table, 0, []byte{})) || !bytes.Equal(none, laid(1, 0, 0, nil)) {
		t.Errorf("%x", none)
	}
	wantOpened(t, none, Table, 0, nil)
}

func TestSealRefuses(t *testing.T) {
	for _, x := range []struct {
		kind, id, size int
		want           api.Errno
	}{
		{0, 0, 0, api.ErrKind},
		{1, 0, 0, api.OK},
		{5, 0, 0, api.OK},
		{6, 0, 0, api.ErrKind},
		{-1, 0, 0, api.ErrKind},
		{257, 0, 0, api.ErrKind},
		{256, 0, 0, api.ErrKind},
		{math.MinInt, 0, 0, api.ErrKind},
		{math.MaxInt, 0, 0, api.ErrKind},
		{1, -1, 0, api.ErrRange},
		{1, 3000, 0, api.OK},
		{1, 3001, 0, api.ErrRange},
		{1, 1 << 24, 0, api.ErrRange},
		{1, math.MinInt, 0, api.ErrRange},
		{1, math.MaxInt, 0, api.ErrRange},
		{1, 0, 246, api.OK},
		{1, 0, 247, api.ErrLong},
		{1, 0, 256, api.ErrLong},
		{1, 0, 70000, api.ErrLong},
		// Of several errors the first one.
		{0, -1, 247, api.ErrKind},
		{6, 3001, 0, api.ErrKind},
		{6, 0, 247, api.ErrKind},
		{5, 3001, 247, api.ErrRange},
		{1, -1, 247, api.ErrRange},
	} {
		b, err := Seal(x.kind, x.id, make([]byte, x.size))
		if err != x.want {
			t.Errorf("%v: error %d", x, err)
		}
		if err != api.OK && len(b) != 0 {
			t.Errorf("%v: beside an error: %x", x, b)
		}
	}
}

func TestOpenRefusesOtherLengths(t *testing.T) {
	b := seal(t, Dir, 9, []byte("abc"))
	wantRefused(t, "nil", nil, api.ErrArg)
	wantRefused(t, "empty", []byte{}, api.ErrArg)
	for _, n := range []int{1, 3, 4, 6, 252, 255} {
		wantRefused(t, "cut", b[:n], api.ErrArg)
		wantRefused(t, "cut at its beginning", b[256-n:], api.ErrArg)
	}
	wantRefused(t, "one more", append(slices.Clone(b), 0), api.ErrArg)
	wantRefused(t, "twice", slices.Concat(b, b), api.ErrArg)
}

// A shorter or longer text may well have a right sum of its own: that its
// length is wrong comes first.
func TestOpenAsksTheLengthFirst(t *testing.T) {
	for _, n := range []int{0, 6, 251, 253, 508} {
		own := make([]byte, n)
		own = binary.BigEndian.AppendUint32(own, crc32.Checksum(own, crc32.MakeTable(crc32.Castagnoli)))
		wantRefused(t, "a right sum", own, api.ErrArg)
	}
}

func TestOpenRefusesEveryChangedByte(t *testing.T) {
	b := seal(t, Bucket, 2345, bodyOf(100))
	for i := range b {
		for _, by := range []byte{1, 0x80, 0xff} {
			other := slices.Clone(b)
			other[i] ^= by
			wantRefused(t, "a changed byte", other, api.ErrSum)
		}
	}
}

// What is wrong in both ways is told by its sum.
func TestOpenAsksTheSumAheadOfTheForm(t *testing.T) {
	wantRefused(t, "ones", bytes.Repeat([]byte{255}, 256), api.ErrSum)
	wantRefused(t, "zeros", make([]byte, 256), api.ErrSum)
	b := laid(6, 3001, 247, nil)
	b[255]++
	wantRefused(t, "no page", b, api.ErrSum)
}

func TestOpenRefusesWhatSealNeverLays(t *testing.T) {
	for _, kind := range []int{0, 6, 7, 128, 255} {
		wantRefused(t, "kind", laid(kind, 1, 1, []byte{1}), api.ErrForm)
	}
	for _, id := range []int{3001, 4096, 65535, 65536, 65536 + 1, 1<<24 - 1} {
		wantRefused(t, "id", laid(1, id, 1, []byte{1}), api.ErrForm)
	}
	for _, length := range []int{247, 248, 250, 251, 252, 255, 256, 65535} {
		wantRefused(t, "length", laid(1, 1, length, nil), api.ErrForm)
		wantRefused(t, "length, and a full body", laid(1, 1, length, bodyOf(246)), api.ErrForm)
	}
	wantRefused(t, "ones", sealed(bytes.Repeat([]byte{255}, 252)), api.ErrForm)
	wantRefused(t, "zeros", sealed(make([]byte, 252)), api.ErrForm)
}

func TestOpenRefusesWhereZerosAreNotZeros(t *testing.T) {
	for _, n := range []int{0, 1, 100, 245} {
		b := laid(3, 5, n, bodyOf(n))
		for i := 6 + n; i < 252; i++ {
			other := slices.Clone(b)
			other[i] = 1
			wantRefused(t, "no zero", sealed(other), api.ErrForm)
		}
		wantOpened(t, b, 3, 5, bodyOf(n))
	}
}

func TestOpenTakesEveryPageThatMayBe(t *testing.T) {
	for _, id := range []int{0, 3000} {
		for _, kind := range []int{1, 5} {
			for _, n := range []int{0, 246} {
				wantOpened(t, laid(kind, id, n, bodyOf(n)), kind, id, bodyOf(n))
			}
		}
	}
}

func TestSealLeavesItsBody(t *testing.T) {
	room := bytes.Repeat([]byte{9}, 300)
	body := room[:10]
	b := seal(t, Dir, 1, body)
	if !bytes.Equal(room, bytes.Repeat([]byte{9}, 300)) {
		t.Error("the body, or what stands behind it, was changed")
	}
	want := slices.Clone(b)
	clear(room)
	if !bytes.Equal(b, want) {
		t.Error("the block shares with the body")
	}
	fill(b[:cap(b)])
	if !bytes.Equal(room, make([]byte, 300)) {
		t.Error("the body shares with the block")
	}
	if !bytes.Equal(seal(t, Dir, 1, bytes.Repeat([]byte{9}, 10)), want) {
		t.Error("a later block hangs on an earlier one")
	}
}

func TestOpenLeavesItsBlock(t *testing.T) {
	room := append(laid(Dir, 1, 10, bodyOf(10)), bodyOf(50)...)
	was := slices.Clone(room)
	_, _, body, _ := Open(room[:256])
	if !bytes.Equal(room, was) {
		t.Error("the block, or what stands behind it, was changed")
	}
	clear(room)
	if !bytes.Equal(body, bodyOf(10)) {
		t.Error("the body shares with the block")
	}
	fill(body[:cap(body)])
	if !bytes.Equal(room, make([]byte, len(room))) {
		t.Error("the block shares with the body, or its room")
	}
	_, _, body, _ = Open(was[:256])
	if !bytes.Equal(body, bodyOf(10)) {
		t.Error("a later body hangs on an earlier one")
	}
}

func fill(b []byte) {
	for i := range b {
		b[i] = 0xaa
	}
}

func TestWordsLaysAndUnwordsReads(t *testing.T) {
	for _, x := range []struct {
		l []int
		b string
	}{
		{nil, ""},
		{[]int{}, ""},
		{[]int{1, 258}, "\x00\x01\x01\x02"},
		{[]int{0}, "\x00\x00"},
		{[]int{65535}, "\xff\xff"},
		{[]int{255, 256, 65280}, "\x00\xff\x01\x00\xff\x00"},
		{[]int{0, 0, 7, 0}, "\x00\x00\x00\x00\x00\x07\x00\x00"},
		{[]int{32768, 1, 32767}, "\x80\x00\x00\x01\x7f\xff"},
	} {
		b, err := Words(x.l)
		if string(b) != x.b || err != api.OK {
			t.Errorf("Words(%v) = %x, error %d", x.l, b, err)
		}
		l, err := Unwords([]byte(x.b))
		if !slices.Equal(l, x.l) || err != api.OK {
			t.Errorf("Unwords(%x) = %v, error %d", x.b, l, err)
		}
	}
}

func TestWordsOfEveryNumber(t *testing.T) {
	l := make([]int, 65536)
	for i := range l {
		l[i] = i
	}
	b, err := Words(l)
	if err != api.OK || len(b) != 2*65536 {
		t.Fatal(len(b), err)
	}
	for i := range l {
		if b[2*i] != byte(i>>8) || b[2*i+1] != byte(i) {
			t.Fatalf("%d: %x", i, b[2*i:2*i+2])
		}
	}
	if back, err := Unwords(b); err != api.OK || !slices.Equal(back, l) {
		t.Error("read otherwise than laid", err)
	}
}

func TestWordsRefuses(t *testing.T) {
	for _, l := range [][]int{
		{-1},
		{65536},
		{65536 + 1},
		{1 << 32},
		{math.MinInt},
		{math.MaxInt},
		{1, 2, 65536},
		{65536, 1, 2},
		{1, -1, 2},
	} {
		if b, err := Words(l); err != api.ErrRange || len(b) != 0 {
			t.Errorf("Words(%v) = %x, error %d", l, b, err)
		}
	}
}

func TestUnwordsRefusesAnOddNumberOfBytes(t *testing.T) {
	if l, err := Unwords(nil); err != api.OK || len(l) != 0 {
		t.Error(l, err)
	}
	for _, n := range []int{1, 3, 5, 255, 257} {
		if l, err := Unwords(bodyOf(n)); err != api.ErrForm || len(l) != 0 {
			t.Errorf("%d bytes: %v, error %d", n, l, err)
		}
	}
	for _, n := range []int{2, 4, 256} {
		if l, err := Unwords(bodyOf(n)); err != api.OK || len(l) != n/2 {
			t.Errorf("%d bytes: %v, error %d", n, l, err)
		}
	}
}

func TestWordsLeavesItsNumbers(t *testing.T) {
	l := []int{1, 258, 3}
	b, _ := Words(l[:2])
	clear(l)
	if string(b) != "\x00\x01\x01\x02" {
		t.Errorf("%x", b)
	}
	Words(l[:1])
	if !slices.Equal(l, []int{0, 0, 0}) {
		t.Error(l)
	}
	fill(b[:cap(b)])
	if again, _ := Words([]int{1, 258}); string(again) != "\x00\x01\x01\x02" {
		t.Errorf("a later answer hangs on an earlier one: %x", again)
	}
}

func TestUnwordsLeavesItsBytes(t *testing.T) {
	b := []byte{0, 1, 1, 2, 9, 9}
	l, _ := Unwords(b[:4])
	if !bytes.Equal(b, []byte{0, 1, 1, 2, 9, 9}) {
		t.Errorf("%x", b)
	}
	clear(b)
	if !slices.Equal(l, []int{1, 258}) {
		t.Error(l)
	}
}

func TestSplitCuts(t *testing.T) {
	for _, x := range []struct {
		b    string
		size int
		want []string
	}{
		{"abcde", 1, []string{"a", "b", "c", "d", "e"}},
		{"abcde", 2, []string{"ab", "cd", "e"}},
		{"abcde", 3, []string{"abc", "de"}},
		{"abcde", 4, []string{"abcd", "e"}},
		{"abcde", 5, []string{"abcde"}},
		{"abcde", 6, []string{"abcde"}},
		{"abcde", math.MaxInt, []string{"abcde"}},
		{"abcdef", 2, []string{"ab", "cd", "ef"}},
		{"abcdef", 3, []string{"abc", "def"}},
		{"a", 1, []string{"a"}},
		{"a", 2, []string{"a"}},
		{"\x00\x00", 1, []string{"\x00", "\x00"}},
		{"abcde", 0, nil},
		{"abcde", -1, nil},
		{"abcde", math.MinInt, nil},
		{"", 1, nil},
		{"", 5, nil},
		{"", 0, nil},
		{"", -1, nil},
		{"", math.MaxInt, nil},
	} {
		if got := texts(Split([]byte(x.b), x.size)); !slices.Equal(got, x.want) {
			t.Errorf("Split(%q, %d) = %q, want %q", x.b, x.size, got, x.want)
		}
	}
	for _, size := range []int{math.MinInt, -1, 0, 1, 5, math.MaxInt} {
		if got := Split(nil, size); len(got) != 0 {
			t.Errorf("Split(nil, %d) = %q", size, got)
		}
	}
}

func texts(pieces [][]byte) []string {
	var l []string
	for _, p := range pieces {
		l = append(l, string(p))
	}
	return l
}

func TestSplitPiecesAreAll(t *testing.T) {
	for n := range 40 {
		for size := 1; size <= n+2; size++ {
			b := bodyOf(n)
			pieces := Split(b, size)
			if all := slices.Concat(pieces...); !bytes.Equal(all, b) {
				t.Errorf("%d bytes by %d: %x", n, size, all)
			}
			if len(pieces) != (n+size-1)/size {
				t.Errorf("%d bytes by %d: %d pieces", n, size, len(pieces))
			}
			for i, p := range pieces {
				if len(p) == 0 || len(p) > size || (i+1 < len(pieces) && len(p) != size) {
					t.Errorf("%d bytes by %d: piece %d has %d", n, size, i, len(p))
				}
			}
		}
	}
}

func TestSplitPiecesShareNothing(t *testing.T) {
	b := []byte("abcdefg")
	pieces := Split(b, 3)
	for i := range pieces {
		_ = append(pieces[i], "XYZ"...)
	}
	if got := texts(pieces); !slices.Equal(got, []string{"abc", "def", "g"}) {
		t.Errorf("appending to a piece changes another: %q", got)
	}
	fill(pieces[1])
	if got := texts(pieces); got[0] != "abc" || got[2] != "g" {
		t.Errorf("changing a piece changes another: %q", got)
	}
	for _, p := range pieces {
		fill(p[:cap(p)])
	}
	if string(b) != "abcdefg" {
		t.Errorf("changing pieces changes what was cut: %q", b)
	}
}

func TestSplitLeavesItsBytes(t *testing.T) {
	room := []byte("abcdefgh")
	pieces := Split(room[:5], 2)
	if string(room) != "abcdefgh" {
		t.Errorf("%q", room)
	}
	_ = append(pieces[2], "XYZ"...)
	if string(room) != "abcdefgh" {
		t.Errorf("appending to a piece changes what was cut: %q", room)
	}
	clear(room)
	if got := texts(pieces); !slices.Equal(got, []string{"ab", "cd", "e"}) {
		t.Errorf("%q", got)
	}
}

// A long text goes over several pages, and comes back of them.
func TestPagesOfALongText(t *testing.T) {
	for _, n := range []int{1, 245, 246, 247, 491, 492, 493, 1000} {
		text := bodyOf(n)
		var all []byte
		for id, piece := range Split(text, Room) {
			kind, back, body, err := Open(seal(t, Table, id, piece))
			if kind != Table || back != id || err != api.OK {
				t.Errorf("%d bytes: page %d is %d, %d, error %d", n, id, kind, back, err)
			}
			all = append(all, body...)
		}
		if !bytes.Equal(all, text) {
			t.Errorf("%d bytes: %x", n, all)
		}
	}
}
