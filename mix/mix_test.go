package mix

import (
	"math"
	"math/rand"
	"strings"
	"testing"
)

// low is 2^32: what products are taken modulo of.
const low = uint64(1) << 32

// byDefinition goes as P9.1 words it, with quotients, and with numbers that are
// wide enough to lose nothing of a product.
func byDefinition(key string) uint32 {
	h := uint64(2166136261)
	for _, c := range []byte(key) {
		h = (h ^ uint64(c)) * 16777619 % low
	}
	h ^= h / 65536
	h = h * 0x85ebca6b % low
	h ^= h / 8192
	h = h * 0xc2b2ae35 % low
	h ^= h / 65536
	return uint32(h)
}

// bitsOf tells the bits of h as 32 noughts and ones, the highest first, by
// halving.
func bitsOf(h uint32) [32]int {
	var bits [32]int
	for i := 31; i >= 0; i-- {
		bits[i] = int(h % 2)
		h /= 2
	}
	return bits
}

// topOf puts the first depth bits together, one by one.
func topOf(h uint32, depth int) int {
	n := 0
	for i, b := range bitsOf(h) {
		if i < depth {
			n = 2*n + b
		}
	}
	return n
}

// numbers are the edges of h, each single bit, and drawn ones.
func numbers() []uint32 {
	l := []uint32{0, 1, 2, 5, 1<<31 - 1, 1 << 31, 1<<31 + 1, 1<<32 - 2, 1<<32 - 1, 0xc0000000, 0x40000000, 0x55555555, 0xaaaaaaaa}
	for i := range 32 {
		l = append(l, 1<<i)
	}
	r := rand.New(rand.NewSource(9))
	for range 500 {
		l = append(l, r.Uint32())
	}
	return l
}

// places are depths and places within, at the edges and far outside.
func places() []int {
	l := []int{math.MinInt, math.MinInt + 1, math.MinInt32, -1 << 33, -65, -64, -33, -32, -31}
	for i := -3; i <= 36; i++ {
		l = append(l, i)
	}
	return append(l, 63, 64, 65, 95, 96, 99, 128, 256, 1<<31-1, 1<<31, 1<<32, 1<<32+1, 1<<32+31, math.MaxInt-1, math.MaxInt)
}

// P9.1: numbers worked out apart from the program.
func TestOfTold(t *testing.T) {
	every := make([]byte, 256)
	for i := range every {
		every[i] = byte(i)
	}
	long := make([]byte, 100000)
	for i := range long {
		long[i] = byte(i * 7)
	}
	told := []struct {
		key  string
		want uint32
	}{
		{"", 0xab3e7c0b},
		{"a", 0x1a80b1b3},
		{"b", 0x82c46232},
		{"\x00", 0x0578ab1b},
		{"\x7f", 0xe8c19090},
		{"\x80", 0x9f3c3615},
		{"\xff", 0xb8c37e1d},
		{"\xc3\xa9", 0x8e4756c7},
		{"\xff\xfe\xed", 0x681f5d5c},
		{"a\x00", 0x91e9da27},
		{"\x00a", 0x956e1d12},
		{"ab", 0x98cc640d},
		{"ba", 0x241c5d95},
		{"foobar", 0x0c0da6dc},
		{strings.Repeat("k", 48), 0xd16cae2f},
		{string(every), 0xf8c36466},
		{string(long), 0x765453c4},
	}
	for _, c := range told {
		if got := Of(c.key); got != c.want {
			t.Errorf("Of of %d bytes, %.12q = %08x; want %08x", len(c.key), c.key, got, c.want)
		}
	}
}

// P9.1, the chapter's example: by the byte of `a` the number is e40c292c, and
// the steps behind it follow.
func TestOfExample(t *testing.T) {
	h := uint32(0xe40c292c)
	h ^= h / 65536
	h *= 0x85ebca6b
	h ^= h / 8192
	h *= 0xc2b2ae35
	h ^= h / 65536
	if got := Of("a"); got != h {
		t.Errorf("Of(a) = %08x; want %08x", got, h)
	}
}

// P9.1: each key of one byte, and drawn keys of all bytes and many lengths.
func TestOfByDefinition(t *testing.T) {
	var keys []string
	for c := range 256 {
		keys = append(keys, string([]byte{byte(c)}))
	}
	r := rand.New(rand.NewSource(1))
	for n := range 200 {
		for range 5 {
			b := make([]byte, n)
			r.Read(b)
			keys = append(keys, string(b))
		}
	}
	keys = append(keys, strings.Repeat("\xff", 1<<20), strings.Repeat("\x00", 1<<16))
	for _, key := range keys {
		if got, want := Of(key), byDefinition(key); got != want {
			t.Errorf("Of of %d bytes, %.12q = %08x; want %08x", len(key), key, got, want)
		}
	}
}

// P9.1, rule 4: the same key has the same bits each time, whatever was asked
// ahead of it.
func TestOfAgain(t *testing.T) {
	first := Of("key")
	Of("another")
	Of("")
	if again := Of("key"); again != first {
		t.Errorf("Of(key) = %08x, and %08x then", first, again)
	}
}

// P9.1: no two keys of one byte have the same bits, as each step can be undone.
func TestOfOneByteApart(t *testing.T) {
	seen := map[uint32]int{}
	for c := range 256 {
		h := Of(string([]byte{byte(c)}))
		if d, ok := seen[h]; ok {
			t.Errorf("the bytes %d and %d both have %08x", d, c, h)
		}
		seen[h] = c
	}
}

// P9.2: Top told by hand, the chapter's example first.
func TestTopTold(t *testing.T) {
	const most = 1<<32 - 1
	told := []struct {
		h     uint32
		depth int
		want  int
	}{
		{0xc0000000, 2, 3},
		{0xc0000000, 1, 1}, {0xc0000000, 3, 6}, {0xc0000000, 0, 0}, {0xc0000000, -1, 0},
		{0, math.MinInt, 0}, {0, -1, 0}, {0, 0, 0}, {0, 1, 0}, {0, 31, 0}, {0, 32, 0}, {0, 33, 0}, {0, math.MaxInt, 0},
		{1 << 31, math.MinInt, 0}, {1 << 31, -1, 0}, {1 << 31, 0, 0}, {1 << 31, 1, 1}, {1 << 31, 31, 1 << 30},
		{1 << 31, 32, 1 << 31}, {1 << 31, 33, 1 << 31}, {1 << 31, math.MaxInt, 1 << 31},
		{most, math.MinInt, 0}, {most, -1, 0}, {most, 0, 0}, {most, 1, 1}, {most, 31, 1<<31 - 1},
		{most, 32, most}, {most, 33, most}, {most, 64, most}, {most, math.MaxInt, most},
		{5, 99, 5}, {1, -3, 0}, {1, 31, 0}, {1, 32, 1}, {0x12345678, 4, 1}, {0x12345678, 10, 0x48}, {0x12345678, 16, 0x1234},
	}
	for _, c := range told {
		if got := Top(c.h, c.depth); got != c.want {
			t.Errorf("Top(%08x, %d) = %d; want %d", c.h, c.depth, got, c.want)
		}
	}
}

// P9.2: Bit told by hand, the chapter's example first.
func TestBitTold(t *testing.T) {
	const most = 1<<32 - 1
	told := []struct {
		h    uint32
		at   int
		want int
	}{
		{0x40000000, 1, 1},
		{0x40000000, 0, 0}, {0x40000000, 2, 0},
		{0, -1, 0}, {0, 0, 0}, {0, 31, 0}, {0, 32, 0},
		{1 << 31, -1, 0}, {1 << 31, 0, 1}, {1 << 31, 1, 0}, {1 << 31, 31, 0}, {1 << 31, 32, 0},
		{most, math.MinInt, 0}, {most, -32, 0}, {most, -1, 0}, {most, 0, 1}, {most, 31, 1}, {most, 32, 0}, {most, 64, 0}, {most, math.MaxInt, 0},
		{1, 31, 1}, {1, 30, 0}, {1, 32, 0}, {2, 30, 1}, {9, -1, 0},
	}
	for _, c := range told {
		if got := Bit(c.h, c.at); got != c.want {
			t.Errorf("Bit(%08x, %d) = %d; want %d", c.h, c.at, got, c.want)
		}
	}
}

// P9.2: all depths and places, far outside, too, of many numbers.
func TestTopAndBitByDefinition(t *testing.T) {
	for _, h := range numbers() {
		bits := bitsOf(h)
		for _, at := range places() {
			if got, want := Top(h, at), topOf(h, at); got != want {
				t.Errorf("Top(%08x, %d) = %d; want %d", h, at, got, want)
			}
			want := 0
			if at >= 0 && at < 32 {
				want = bits[at]
			}
			if got := Bit(h, at); got != want {
				t.Errorf("Bit(%08x, %d) = %d; want %d", h, at, got, want)
			}
		}
	}
}

// P9.3: a depth more is twice Top, and the bit behind; up to all bits.
func TestTopGrows(t *testing.T) {
	for _, h := range numbers() {
		for depth := range 32 {
			if got, want := Top(h, depth+1), 2*Top(h, depth)+Bit(h, depth); got != want {
				t.Errorf("Top(%08x, %d) = %d; want %d", h, depth+1, got, want)
			}
		}
		if got := Top(h, 32); got != int(h) {
			t.Errorf("Top(%08x, 32) = %d; want the number itself", h, got)
		}
	}
}
