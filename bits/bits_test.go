package bits

import (
	"bytes"
	"math"
	"slices"
	"testing"
)

// sets are of many lengths: nil, empty, without a number, with all, with the
// first and last ones of their bytes, and with every byte that there is.
func sets() [][]byte {
	every := make([]byte, 256)
	for i := range every {
		every[i] = byte(i)
	}
	return [][]byte{
		nil,
		{},
		{0x00},
		{0xff},
		{0x80},
		{0x01},
		{0x40, 0x00},
		{0x00, 0x40},
		{0x81, 0x18, 0xff},
		{0xff, 0xff, 0xfe},
		bytes.Repeat([]byte{0xff}, 512),
		bytes.Repeat([]byte{0xa5, 0x00}, 300),
		every,
	}
}

// numbers are those about a set's edges, some within it, and far off ones.
func numbers(m []byte) []int {
	end := 8 * len(m)
	return []int{math.MinInt, math.MinInt + 1, -4096, -9, -8, -7, -1, 0, 1, 2, 6, 7, 8, 9, 15, 16, end / 2,
		end - 9, end - 8, end - 7, end - 1, end, end + 1, end + 7, end + 8, 4095, 4096, 1 << 32, 1 << 62, math.MaxInt - 1, math.MaxInt}
}

// isIn tells by the definition's own words whether i is in m.
func isIn(m []byte, i int) bool {
	if i < 0 || i > 8*len(m)-1 {
		return false
	}
	value := 1
	for range 7 - i%8 {
		value *= 2
	}
	return int(m[i/8])/value%2 == 1
}

func checkSet(t *testing.T, what string, got, want []byte) {
	t.Helper()
	if !bytes.Equal(got, want) {
		t.Errorf("%s = % x; want % x", what, got, want)
	}
}

func checkFirst(t *testing.T, m []byte, from, want int, wantOK bool) {
	t.Helper()
	got, ok := First(m, from)
	if got != want || ok != wantOK {
		t.Errorf("First(% x, %d) = %d, %v; want %d, %v", m, from, got, ok, want, wantOK)
	}
}

func TestExample(t *testing.T) {
	m := With(Make(9), 1, true)
	checkSet(t, "With(Make(9), 1, true)", m, []byte{0x40, 0x00})
	checkFirst(t, m, 1, 2, true)
}

// P4.1

func TestMakeHasAsManyBytesAsNumbersNeed(t *testing.T) {
	for _, c := range []struct{ n, want int }{
		{math.MinInt, 0}, {-4096, 0}, {-8, 0}, {-1, 0}, {0, 0},
		{1, 1}, {2, 1}, {7, 1}, {8, 1}, {9, 2}, {15, 2}, {16, 2}, {17, 3},
		{100, 13}, {4087, 511}, {4088, 511}, {4089, 512}, {4095, 512}, {4096, 512},
		{4097, 512}, {4104, 512}, {4105, 512}, {5000, 512}, {1 << 40, 512}, {math.MaxInt, 512},
	} {
		m := Make(c.n)
		if len(m) != c.want {
			t.Errorf("Make(%d) has %d bytes; want %d", c.n, len(m), c.want)
		}
		if bytes.Count(m, []byte{0}) != len(m) {
			t.Errorf("Make(%d) isn't zeros", c.n)
		}
	}
}

func TestMakeHasNothingIn(t *testing.T) {
	for _, n := range []int{-1, 0, 1, 8, 9, 4096, 4097} {
		m := Make(n)
		for i := -1; i <= 8*len(m); i++ {
			if Has(m, i) {
				t.Errorf("Has(Make(%d), %d)", n, i)
			}
		}
	}
}

func TestHasOfKnownSets(t *testing.T) {
	for _, c := range []struct {
		m   []byte
		in  []int
		out []int
	}{
		{nil, nil, []int{math.MinInt, -1, 0, 1, 7, 8, math.MaxInt}},
		{[]byte{}, nil, []int{math.MinInt, -1, 0, 1, 7, 8, math.MaxInt}},
		{[]byte{0x80}, []int{0}, []int{-8, -1, 1, 7, 8}},
		{[]byte{0x01}, []int{7}, []int{-1, 0, 1, 6, 8, 15}},
		{[]byte{0xc0, 0x41}, []int{0, 1, 9, 15}, []int{-1, 2, 7, 8, 10, 14, 16, 17}},
		{[]byte{0xff}, []int{0, 1, 2, 3, 4, 5, 6, 7}, []int{math.MinInt, -7, -1, 8, 9, math.MaxInt}},
	} {
		for _, i := range c.in {
			if !Has(c.m, i) {
				t.Errorf("not Has(% x, %d)", c.m, i)
			}
		}
		for _, i := range c.out {
			if Has(c.m, i) {
				t.Errorf("Has(% x, %d)", c.m, i)
			}
		}
	}
}

func TestHasIsAsDefined(t *testing.T) {
	for _, m := range sets() {
		for _, i := range numbers(m) {
			if Has(m, i) != isIn(m, i) {
				t.Errorf("Has(% x, %d) = %v", m, i, Has(m, i))
			}
		}
		for i := range 8 * len(m) {
			if Has(m, i) != isIn(m, i) {
				t.Errorf("Has(% x, %d) = %v", m, i, Has(m, i))
			}
		}
	}
}

func TestWithOfKnownSets(t *testing.T) {
	for _, c := range []struct {
		m    []byte
		i    int
		on   bool
		want []byte
	}{
		{[]byte{0x00}, 0, true, []byte{0x80}},
		{[]byte{0x00}, 7, true, []byte{0x01}},
		{[]byte{0x00, 0x00}, 8, true, []byte{0x00, 0x80}},
		{[]byte{0x00, 0x00}, 15, true, []byte{0x00, 0x01}},
		{[]byte{0xc0, 0x40}, 1, false, []byte{0x80, 0x40}},
		{[]byte{0xff, 0xff}, 0, false, []byte{0x7f, 0xff}},
		{[]byte{0xff, 0xff}, 15, false, []byte{0xff, 0xfe}},
		{[]byte{0xc0, 0x40}, 1, true, []byte{0xc0, 0x40}},
		{[]byte{0xc0, 0x40}, 2, false, []byte{0xc0, 0x40}},
	} {
		checkSet(t, "With", With(c.m, c.i, c.on), c.want)
	}
}

func TestWithBeyondTheRoomIsTheSetAsItIs(t *testing.T) {
	for _, m := range sets() {
		end := 8 * len(m)
		for _, i := range []int{math.MinInt, -8, -1, end, end + 1, end + 7, end + 8, 1 << 40, math.MaxInt} {
			checkSet(t, "With on", With(m, i, true), m)
			checkSet(t, "With off", With(m, i, false), m)
		}
	}
}

// P4.2

func TestFirstOfKnownSets(t *testing.T) {
	m := []byte{0xc0, 0x40}
	checkFirst(t, m, math.MinInt, 2, true)
	checkFirst(t, m, -5, 2, true)
	checkFirst(t, m, -1, 2, true)
	checkFirst(t, m, 0, 2, true)
	checkFirst(t, m, 1, 2, true)
	checkFirst(t, m, 2, 2, true)
	checkFirst(t, m, 3, 3, true)
	checkFirst(t, m, 7, 7, true)
	checkFirst(t, m, 8, 8, true)
	checkFirst(t, m, 9, 10, true)
	checkFirst(t, m, 15, 15, true)
	checkFirst(t, m, 16, 0, false)
	checkFirst(t, m, 17, 0, false)
	checkFirst(t, m, math.MaxInt, 0, false)
	checkFirst(t, []byte{0x00}, 0, 0, true)
	checkFirst(t, []byte{0x80}, math.MinInt, 1, true)
	checkFirst(t, []byte{0xff, 0xfe}, 0, 15, true)
	checkFirst(t, []byte{0xff, 0xfe}, 15, 15, true)
	checkFirst(t, []byte{0x7f, 0xff}, 0, 0, true)
	checkFirst(t, []byte{0x7f, 0xff}, 1, 0, false)
}

func TestFirstOfFullAndEmptySets(t *testing.T) {
	for _, m := range [][]byte{nil, {}, {0xff}, {0xff, 0xff}, bytes.Repeat([]byte{0xff}, 512)} {
		for _, from := range numbers(m) {
			checkFirst(t, m, from, 0, false)
		}
	}
}

func TestFirstIsTheLowestThatIsNotIn(t *testing.T) {
	for _, m := range sets() {
		froms := numbers(m)
		for from := range min(8*len(m), 64) {
			froms = append(froms, from)
		}
		for _, from := range froms {
			want, wantOK := 0, false
			for i := max(from, 0); i < 8*len(m); i++ {
				if !isIn(m, i) {
					want, wantOK = i, true
					break
				}
			}
			checkFirst(t, m, from, want, wantOK)
		}
	}
}

func TestCountAndListOfKnownSets(t *testing.T) {
	for _, c := range []struct {
		m    []byte
		want []int
	}{
		{nil, nil},
		{[]byte{}, nil},
		{[]byte{0x00}, nil},
		{[]byte{0x00, 0x00, 0x00}, nil},
		{[]byte{0x80}, []int{0}},
		{[]byte{0x01}, []int{7}},
		{[]byte{0xc0, 0x40}, []int{0, 1, 9}},
		{[]byte{0x00, 0x00, 0x01}, []int{23}},
		{[]byte{0xff, 0x81}, []int{0, 1, 2, 3, 4, 5, 6, 7, 8, 15}},
	} {
		if got := Count(c.m); got != len(c.want) {
			t.Errorf("Count(% x) = %d; want %d", c.m, got, len(c.want))
		}
		if got := List(c.m); !slices.Equal(got, c.want) {
			t.Errorf("List(% x) = %v; want %v", c.m, got, c.want)
		}
	}
}

func TestCountAndListGoBeyondMaxBlocks(t *testing.T) {
	m := bytes.Repeat([]byte{0x01}, 1000)
	if got := Count(m); got != 1000 {
		t.Errorf("Count = %d; want 1000", got)
	}
	list := List(m)
	if len(list) != 1000 || list[0] != 7 || list[999] != 7999 {
		t.Errorf("List has %d numbers", len(list))
	}
}

// P4.3

func TestJoinAndLessOfKnownSets(t *testing.T) {
	for _, c := range []struct{ a, b, join, less []byte }{
		{nil, nil, nil, nil},
		{nil, []byte{}, nil, nil},
		{[]byte{}, nil, nil, nil},
		{nil, []byte{0x81}, []byte{0x81}, []byte{0x00}},
		{[]byte{0x81}, nil, []byte{0x81}, []byte{0x81}},
		{[]byte{}, []byte{0x00, 0x03}, []byte{0x00, 0x03}, []byte{0x00, 0x00}},
		{[]byte{0x00, 0x03}, []byte{}, []byte{0x00, 0x03}, []byte{0x00, 0x03}},
		{[]byte{0x01}, []byte{0x02, 0x03}, []byte{0x03, 0x03}, []byte{0x01, 0x00}},
		{[]byte{0x03, 0x01}, []byte{0x01}, []byte{0x03, 0x01}, []byte{0x02, 0x01}},
		{[]byte{0x03}, []byte{0x03}, []byte{0x03}, []byte{0x00}},
		{[]byte{0xf0}, []byte{0x3c}, []byte{0xfc}, []byte{0xc0}},
		{[]byte{0x3c}, []byte{0xf0}, []byte{0xfc}, []byte{0x0c}},
	} {
		join, less := Join(c.a, c.b), Less(c.a, c.b)
		checkSet(t, "Join", join, c.join)
		checkSet(t, "Less", less, c.less)
	}
}

func TestJoinAndLessAreAsDefined(t *testing.T) {
	for _, a := range sets() {
		for _, b := range sets() {
			join, less := Join(a, b), Less(a, b)
			longest := max(len(a), len(b))
			if len(join) != longest || len(less) != longest {
				t.Fatalf("of %d and %d bytes: Join has %d, Less %d", len(a), len(b), len(join), len(less))
			}
			for i := range 8 * longest {
				if isIn(join, i) != (isIn(a, i) || isIn(b, i)) {
					t.Fatalf("Join(% x, % x) is wrong at %d", a, b, i)
				}
				if isIn(less, i) != (isIn(a, i) && !isIn(b, i)) {
					t.Fatalf("Less(% x, % x) is wrong at %d", a, b, i)
				}
			}
		}
	}
}

func TestJoinAndLessOfASetWithItself(t *testing.T) {
	for _, m := range sets() {
		was := slices.Clone(m)
		checkSet(t, "Join", Join(m, m), was)
		checkSet(t, "Less", Less(m, m), make([]byte, len(m)))
		checkSet(t, "the set", m, was)
	}
}

// P4.4

func TestWithChangesJustThatNumber(t *testing.T) {
	for _, m := range sets() {
		for _, i := range numbers(m) {
			for _, on := range []bool{false, true} {
				checkJust(t, m, With(m, i, on), i, on)
			}
		}
	}
}

// checkJust holds every number of got against m's: i alone may differ.
func checkJust(t *testing.T, m, got []byte, i int, on bool) {
	t.Helper()
	if len(got) != len(m) {
		t.Errorf("With(% x, %d, %v) has %d bytes", m, i, on, len(got))
		return
	}
	for n := range 8 * len(m) {
		want := isIn(m, n)
		if n == i {
			want = on
		}
		if Has(got, n) != want {
			t.Errorf("With(% x, %d, %v) is wrong at %d", m, i, on, n)
		}
	}
}

func TestWhatIsCountedIsWhatIsListed(t *testing.T) {
	for _, m := range sets() {
		list := List(m)
		if Count(m) != len(list) {
			t.Errorf("of % x: Count = %d, List has %d", m, Count(m), len(list))
		}
		var want []int
		for i := range 8 * len(m) {
			if isIn(m, i) {
				want = append(want, i)
			}
		}
		if !slices.Equal(list, want) {
			t.Errorf("List(% x) = %v; want %v", m, list, want)
		}
	}
}

func TestASetIsMadeAndTakenDownNumberByNumber(t *testing.T) {
	m := Make(4096)
	for i := 4095; i >= 0; i -= 3 {
		m = With(m, i, true)
	}
	if Count(m) != 1366 || len(List(m)) != 1366 {
		t.Errorf("Count = %d, List has %d; want 1366", Count(m), len(List(m)))
	}
	for _, i := range List(m) {
		m = With(m, i, false)
	}
	checkSet(t, "the set at the end", m, Make(4096))
}

// What is handed in or out and changed behind the call

func TestArgumentsAreLeftAsTheyWere(t *testing.T) {
	for _, m := range sets() {
		was := slices.Clone(m)
		for _, i := range numbers(m) {
			Has(m, i)
			With(m, i, true)
			With(m, i, false)
			First(m, i)
		}
		Count(m)
		List(m)
		for _, other := range sets() {
			otherWas := slices.Clone(other)
			Join(m, other)
			Less(m, other)
			checkSet(t, "the other set", other, otherWas)
		}
		checkSet(t, "the set", m, was)
	}
}

// spare is m with bytes behind it in the same memory, which no call may touch.
func spare(m []byte) []byte {
	room := append(slices.Clone(m), bytes.Repeat([]byte{0x5a}, 16)...)
	return room[:len(m)]
}

func checkSpare(t *testing.T, m []byte) {
	t.Helper()
	behind := m[len(m) : len(m)+16]
	if bytes.Count(behind, []byte{0x5a}) != 16 {
		t.Errorf("the spare room of % x was changed: % x", m, behind)
	}
}

// spoil overwrites an answer, and its spare room.
func spoil(m []byte) {
	all := m[:cap(m)]
	for i := range all {
		all[i] ^= 0xff
	}
}

func TestAnswersAreNewMemory(t *testing.T) {
	long, short := []byte{0x0f, 0xf0, 0x3c}, []byte{0x55}
	for _, pair := range [][2][]byte{{long, short}, {short, long}, {long, nil}, {nil, long}, {long, {}}, {{}, long}, {nil, nil}, {{}, {}}, {long, long}} {
		a, b := spare(pair[0]), spare(pair[1])
		answers := [][]byte{Join(a, b), Less(a, b), With(a, 0, true), With(a, 0, false), With(a, -1, true), With(a, 8*len(a), true), With(a, math.MaxInt, false)}
		for _, answer := range answers {
			spoil(answer)
			checkSet(t, "a", a, pair[0])
			checkSet(t, "b", b, pair[1])
			checkSpare(t, a)
			checkSpare(t, b)
		}
	}
}

func TestAnswersStayWhenArgumentsChange(t *testing.T) {
	a, b := []byte{0x0f, 0xf0}, []byte{0x55}
	join, less, same, other, list := Join(a, b), Less(a, b), With(a, 99, true), With(a, 0, true), List(a)
	spoil(a)
	spoil(b)
	checkSet(t, "Join", join, []byte{0x5f, 0xf0})
	checkSet(t, "Less", less, []byte{0x0a, 0xf0})
	checkSet(t, "With beyond the room", same, []byte{0x0f, 0xf0})
	checkSet(t, "With", other, []byte{0x8f, 0xf0})
	if !slices.Equal(list, []int{4, 5, 6, 7, 8, 9, 10, 11}) {
		t.Errorf("List = %v", list)
	}
}

func TestTwoAnswersHaveNothingInCommon(t *testing.T) {
	one, two := Make(16), Make(16)
	spoil(one)
	checkSet(t, "the other Make", two, []byte{0, 0})
	m := []byte{0xc0}
	first, second := List(m), List(m)
	first[0] = 99
	if !slices.Equal(second, []int{0, 1}) {
		t.Errorf("the other List = %v", second)
	}
}
