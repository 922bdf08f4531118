package root

import (
	"bytes"
	"encoding/binary"
	"hash/crc32"
	"math"
	"slices"
	"testing"

	"intarsia/api"
)

func example() Root {
	return Root{Epoch: 5, Blocks: 9, Next: 1, Start: 1, Tables: []int{2}, Maps: []int{3}}
}

// middle has room on both sides of every field, so that a test may change one
// alone.
func middle() Root {
	return Root{Epoch: 1000, Blocks: 700, Next: 500, Start: 300, Tables: []int{2, 699, 44}, Maps: []int{699, 2}}
}

// most is the root with the most of everything.
func most() Root {
	r := Root{Epoch: 1 << 40, Blocks: 4096, Next: 3000, Start: 3000}
	for i := range 26 {
		r.Tables = append(r.Tables, 4095-i)
	}
	r.Maps = []int{4095, 2, 4094}
	return r
}

// samples are roots that may be, of all sizes.
func samples() []Root {
	return []Root{
		example(),
		middle(),
		most(),
		{Blocks: 2},
		{Epoch: 1, Blocks: 2},
		{Epoch: 255, Blocks: 4096, Next: 3000},
		{Epoch: 256, Blocks: 3, Tables: []int{2, 2}, Maps: []int{2, 2, 2}},
		{Epoch: 1<<32 + 7, Blocks: 256, Next: 257, Start: 256, Tables: slices.Repeat([]int{255}, 26)},
		{Epoch: 1<<40 - 1, Blocks: 300, Next: 3000, Start: 1, Maps: []int{256}},
	}
}

// laid tells a root's block by the chapter's words, and another library's sum.
func laid(r Root) []byte {
	b := []byte("root")
	b = append(b, six(r.Epoch)...)
	for _, n := range []int{r.Blocks, r.Next, r.Start} {
		b = binary.BigEndian.AppendUint16(b, uint16(n))
	}
	b = append(b, byte(len(r.Tables)), byte(len(r.Maps)))
	for _, n := range slices.Concat(r.Tables, r.Maps) {
		b = binary.BigEndian.AppendUint16(b, uint16(n))
	}
	return sealed(append(b, make([]byte, 246-len(b))...))
}

func six(n int) []byte {
	return binary.BigEndian.AppendUint64(nil, uint64(n))[2:]
}

// sealed puts the right sum and the first epoch behind 246 bytes, whatever
// these are.
func sealed(b []byte) []byte {
	own := slices.Clone(b[:246])
	own = binary.BigEndian.AppendUint32(own, crc32.Checksum(own, crc32.MakeTable(crc32.Castagnoli)))
	return append(own, own[4:10]...)
}

func put(t *testing.T, r Root) []byte {
	t.Helper()
	b, err := Put(r)
	if err != api.OK {
		t.Fatalf("Put(%v): error %d", r, err)
	}
	return b
}

func checkZero(t *testing.T, what string, r Root) {
	t.Helper()
	if r.Epoch != 0 || r.Blocks != 0 || r.Next != 0 || r.Start != 0 || r.Tables != nil || r.Maps != nil {
		t.Errorf("%s tells %v beside its error", what, r)
	}
}

func checkCheck(t *testing.T, r Root, want api.Errno) {
	t.Helper()
	if err := Check(r); err != want {
		t.Errorf("Check(%v) = %d; want %d", r, err, want)
	}
	b, err := Put(r)
	if err != want {
		t.Errorf("Put(%v): error %d; want %d", r, err, want)
	}
	if want != api.OK && b != nil {
		t.Errorf("Put(%v) tells %d bytes beside its error", r, len(b))
	}
}

func checkGet(t *testing.T, what string, b []byte, want api.Errno) {
	t.Helper()
	r, err := Get(b)
	if err != want {
		t.Errorf("%s: Get's error is %d; want %d", what, err, want)
	}
	if want != api.OK {
		checkZero(t, what, r)
	}
}

func checkChoose(t *testing.T, what string, a, b []byte, want Root, wantNumber int) {
	t.Helper()
	r, number, err := Choose(a, b)
	if !alike(r, want) || number != wantNumber || err != api.OK {
		t.Errorf("%s: Choose = %v, %d, %d; want %v, %d, 0", what, r, number, err, want, wantNumber)
	}
}

func checkChooseNone(t *testing.T, what string, a, b []byte) {
	t.Helper()
	r, number, err := Choose(a, b)
	if number != 0 || err != api.ErrForm {
		t.Errorf("%s: Choose = %d, %d; want 0, %d", what, number, err, api.ErrForm)
	}
	checkZero(t, what, r)
}

// alike is Same, told once more for the tests of other calls.
func alike(a, b Root) bool {
	return a.Epoch == b.Epoch && a.Blocks == b.Blocks && a.Next == b.Next && a.Start == b.Start &&
		slices.Equal(a.Tables, b.Tables) && slices.Equal(a.Maps, b.Maps)
}

func copyOf(r Root) Root {
	r.Tables, r.Maps = slices.Clone(r.Tables), slices.Clone(r.Maps)
	return r
}

func TestExample(t *testing.T) {
	b := put(t, example())
	want := []byte{
		0x72, 0x6f, 0x6f, 0x74, 0x00, 0x00, 0x00, 0x00, 0x00, 0x05, 0x00, 0x09,
		0x00, 0x01, 0x00, 0x01, 0x01, 0x01, 0x00, 0x02, 0x00, 0x03,
	}
	if !bytes.HasPrefix(b, want) {
		t.Errorf("Put = % x; want % x ahead", b, want)
	}
	if len(b) != 256 || !bytes.Equal(b[250:], []byte{0, 0, 0, 0, 0, 5}) {
		t.Errorf("Put has %d bytes, and ends with % x", len(b), b[len(b)-6:])
	}
}

// P5.1

func TestCheckOfRootsThatMayBe(t *testing.T) {
	for _, r := range samples() {
		checkCheck(t, r, api.OK)
	}
}

func TestCheckOfTheEpoch(t *testing.T) {
	for epoch, want := range map[int]api.Errno{
		math.MinInt: api.ErrRange, -1: api.ErrRange, 0: api.OK, 1: api.OK, 1<<40 - 1: api.OK, 1 << 40: api.OK,
		1<<40 + 1: api.ErrRange, 1<<48 - 1: api.ErrRange, 1 << 48: api.ErrRange, math.MaxInt: api.ErrRange,
	} {
		r := middle()
		r.Epoch = epoch
		checkCheck(t, r, want)
	}
}

func TestCheckOfTheBlocks(t *testing.T) {
	for blocks, want := range map[int]api.Errno{
		math.MinInt: api.ErrRange, -1: api.ErrRange, 0: api.ErrRange, 1: api.ErrRange, 2: api.OK, 3: api.OK,
		4095: api.OK, 4096: api.OK, 4097: api.ErrRange, 65537: api.ErrRange, math.MaxInt: api.ErrRange,
	} {
		checkCheck(t, Root{Blocks: blocks}, want)
	}
}

func TestCheckOfNextAndStart(t *testing.T) {
	for _, c := range []struct {
		next, start int
		want        api.Errno
	}{
		{math.MinInt, 0, api.ErrRange}, {-1, -1, api.ErrRange}, {-1, -2, api.ErrRange}, {-1, 0, api.ErrRange},
		{0, -1, api.ErrRange}, {0, 0, api.OK}, {0, 1, api.ErrRange}, {0, math.MinInt, api.ErrRange},
		{1, 0, api.OK}, {1, 1, api.OK}, {1, 2, api.ErrRange},
		{300, -1, api.ErrRange}, {300, 299, api.OK}, {300, 300, api.OK}, {300, 301, api.ErrRange},
		{300, 3000, api.ErrRange}, {300, 3001, api.ErrRange},
		{3000, -1, api.ErrRange}, {3000, 0, api.OK}, {3000, 2999, api.OK}, {3000, 3000, api.OK}, {3000, 3001, api.ErrRange},
		{3001, 0, api.ErrRange}, {3001, 3000, api.ErrRange}, {3001, 3001, api.ErrRange}, {math.MaxInt, 0, api.ErrRange},
		{math.MaxInt, math.MaxInt, api.ErrRange},
	} {
		r := middle()
		r.Next, r.Start = c.next, c.start
		checkCheck(t, r, c.want)
	}
}

func TestCheckOfHowManyTablesAndMaps(t *testing.T) {
	for _, c := range []struct {
		tables, maps int
		want         api.Errno
	}{
		{0, 0, api.OK}, {1, 0, api.OK}, {0, 1, api.OK}, {25, 2, api.OK}, {26, 0, api.OK}, {0, 3, api.OK}, {26, 3, api.OK},
		{27, 0, api.ErrLong}, {27, 3, api.ErrLong}, {0, 4, api.ErrLong}, {26, 4, api.ErrLong}, {27, 4, api.ErrLong},
		{256, 0, api.ErrLong}, {0, 256, api.ErrLong}, {256 + 26, 256 + 3, api.ErrLong}, {5000, 5000, api.ErrLong},
	} {
		r := middle()
		r.Tables, r.Maps = slices.Repeat([]int{7}, c.tables), slices.Repeat([]int{8}, c.maps)
		checkCheck(t, r, c.want)
	}
}

func TestCheckOfATableAndAMap(t *testing.T) {
	for _, blocks := range []int{2, 3, 4, 700, 4096} {
		for _, n := range []int{math.MinInt, -1, 0, 1, 2, blocks - 1, blocks, blocks + 1, 4095, 4096, 65536 + 2, math.MaxInt} {
			want := api.ErrRange
			if n >= 2 && n <= blocks-1 {
				want = api.OK
			}
			checkCheck(t, Root{Blocks: blocks, Tables: []int{n}}, want)
			checkCheck(t, Root{Blocks: blocks, Maps: []int{n}}, want)
		}
	}
}

func TestCheckOfEachTableAndMap(t *testing.T) {
	for _, wrong := range []int{0, 1, 4096} {
		for i := range most().Tables {
			r := most()
			r.Tables[i] = wrong
			checkCheck(t, r, api.ErrRange)
		}
		for i := range most().Maps {
			r := most()
			r.Maps[i] = wrong
			checkCheck(t, r, api.ErrRange)
		}
	}
}

func TestTheFirstNamedErrorComesFirst(t *testing.T) {
	long := slices.Repeat([]int{0}, 27)
	for _, r := range []Root{
		{Epoch: -1, Blocks: 9, Tables: long},
		{Epoch: 1<<40 + 1, Blocks: 9, Maps: long},
		{Blocks: 1, Tables: long},
		{Blocks: 4097, Maps: long},
		{Blocks: 9, Next: 3001, Tables: long},
		{Blocks: 9, Next: -1, Start: -1, Maps: long},
		{Blocks: 9, Start: -1, Maps: long},
		{Blocks: 9, Start: 1, Tables: long, Maps: long},
	} {
		checkCheck(t, r, api.ErrRange)
	}
	for _, r := range []Root{
		{Blocks: 9, Tables: long},
		{Blocks: 9, Maps: long[:4]},
		{Blocks: 9, Tables: []int{0}, Maps: long[:4]},
		{Blocks: 9, Tables: long, Maps: []int{1}},
		{Blocks: 2, Tables: slices.Repeat([]int{2}, 27)},
	} {
		checkCheck(t, r, api.ErrLong)
	}
}

// P5.2

func TestPutLaysTheBlock(t *testing.T) {
	for _, r := range samples() {
		if b := put(t, r); !bytes.Equal(b, laid(r)) {
			t.Errorf("Put(%v) = % x; want % x", r, b, laid(r))
		}
	}
}

func TestGetReadsWhatIsLaid(t *testing.T) {
	for _, want := range samples() {
		r, err := Get(laid(want))
		if !alike(r, want) || err != api.OK {
			t.Errorf("Get = %v, %d; want %v", r, err, want)
		}
	}
}

func TestGetOfAWrongLength(t *testing.T) {
	b := laid(middle())
	checkGet(t, "nil", nil, api.ErrArg)
	checkGet(t, "no bytes", []byte{}, api.ErrArg)
	checkGet(t, "257 bytes", append(slices.Clone(b), 0), api.ErrArg)
	checkGet(t, "512 bytes", append(slices.Clone(b), b...), api.ErrArg)
	for n := range len(b) {
		checkGet(t, "a block's beginning", b[:n], api.ErrArg)
	}
	checkGet(t, "256 bytes", b, api.OK)
}

func TestGetOfPlainBytes(t *testing.T) {
	checkGet(t, "zeros", make([]byte, 256), api.ErrSum)
	checkGet(t, "zeros with their sum", sealed(make([]byte, 246)), api.ErrForm)
	checkGet(t, "all bits", bytes.Repeat([]byte{0xff}, 256), api.ErrSum)
	checkGet(t, "all bits with their sum", sealed(bytes.Repeat([]byte{0xff}, 246)), api.ErrForm)
}

func TestGetOfABlockWithOneByteChanged(t *testing.T) {
	for _, r := range samples() {
		b := laid(r)
		for i := range b {
			for bit := range 8 {
				x := slices.Clone(b)
				x[i] ^= 1 << bit
				want := api.ErrSum
				if i >= 4 && i <= 9 || i >= 250 {
					want = api.ErrCut
				}
				checkGet(t, "a changed byte", x, want)
			}
		}
	}
}

func TestGetTellsEpochsThatPartAheadOfTheSum(t *testing.T) {
	b := laid(middle())
	for i := range 6 {
		x := slices.Clone(b)
		x[4+i]++
		x[100]++
		checkGet(t, "an epoch and a byte", x, api.ErrCut)
		x[250+i]++
		checkGet(t, "both epochs and a byte", x, api.ErrSum)
		x[100]--
		checkGet(t, "both epochs", x, api.ErrSum)
	}
}

func TestGetTellsTheSumAheadOfTheForm(t *testing.T) {
	x := laid(middle())
	x[0] = 'R'
	checkGet(t, "another mark", x, api.ErrSum)
	x = sealed(x)
	checkGet(t, "another mark with its sum", x, api.ErrForm)
	x[249]++
	checkGet(t, "another mark with another sum", x, api.ErrSum)
}

func TestGetOfWhatPutNeverLays(t *testing.T) {
	with := func(r Root, place int, all ...byte) []byte {
		b := laid(r)
		copy(b[place:], all)
		return sealed(b)
	}
	for what, b := range map[string][]byte{
		"a mark's first byte":            with(middle(), 0, 's'),
		"a mark's last byte":             with(middle(), 3, 'T'),
		"an epoch of 2^40 + 1":           with(middle(), 4, six(1<<40+1)...),
		"an epoch of all bits":           with(middle(), 4, six(1<<48-1)...),
		"1 block":                        with(Root{Blocks: 2}, 10, 0, 1),
		"no block":                       with(Root{Blocks: 2}, 10, 0, 0),
		"4097 blocks":                    with(middle(), 10, 0x10, 0x01),
		"65535 blocks":                   with(middle(), 10, 0xff, 0xff),
		"a next of 3001":                 with(middle(), 12, 0x0b, 0xb9),
		"a next below start":             with(middle(), 12, 0, 1),
		"a start above next":             with(middle(), 14, 0x01, 0xf5),
		"a start of 65535":               with(middle(), 14, 0xff, 0xff),
		"27 tables":                      sealed(laid(Root{Blocks: 9, Tables: slices.Repeat([]int{2}, 27)})),
		"4 maps":                         sealed(laid(Root{Blocks: 9, Maps: slices.Repeat([]int{2}, 4)})),
		"255 tables":                     with(middle(), 16, 255),
		"255 maps":                       with(middle(), 17, 255),
		"255 tables and maps":            with(middle(), 16, 255, 255),
		"114 tables, up to the sum":      laid(Root{Blocks: 9, Tables: slices.Repeat([]int{2}, 114)}),
		"as many tables, one not there":  with(middle(), 16, 4),
		"a table fewer than there are":   with(middle(), 16, 2),
		"as many maps, one not there":    with(middle(), 17, 3),
		"a map fewer than there are":     with(middle(), 17, 1),
		"a table of 0":                   with(middle(), 18, 0, 0),
		"a table of 1":                   with(middle(), 18, 0, 1),
		"a table of Blocks":              with(middle(), 18, 0x02, 0xbc),
		"a table of 65535":               with(middle(), 18, 0xff, 0xff),
		"a map of 1":                     with(middle(), 24, 0, 1),
		"a map of Blocks":                with(middle(), 24, 0x02, 0xbc),
		"a byte behind the maps":         with(middle(), 28, 1),
		"a byte in the midst of zeros":   with(middle(), 150, 1),
		"a byte ahead of the sum":        with(middle(), 245, 1),
		"a byte behind no tables":        with(Root{Blocks: 2}, 18, 1),
		"a byte behind the most of them": with(most(), 76, 1),
	} {
		if len(b) != 256 {
			t.Fatalf("%s: the test's block has %d bytes", what, len(b))
		}
		checkGet(t, what, b, api.ErrForm)
	}
}

func TestGetOfZerosThatAreNotZeros(t *testing.T) {
	for _, r := range samples() {
		end := 18 + 2*len(r.Tables) + 2*len(r.Maps)
		for i := end; i < 246; i++ {
			b := laid(r)
			b[i] = 0x80
			checkGet(t, "a byte behind the maps", sealed(b), api.ErrForm)
		}
	}
}

func TestWhatGetReadsPutLaysAgain(t *testing.T) {
	b := laid(middle())
	for i := range 246 {
		for c := range 256 {
			x := slices.Clone(b)
			x[i] = byte(c)
			x = sealed(x)
			r, err := Get(x)
			if err == api.OK {
				if again := put(t, r); !bytes.Equal(again, x) {
					t.Errorf("with byte %d %d: Put of what Get reads is another block", i, c)
				}
			} else if err != api.ErrForm {
				t.Errorf("with byte %d %d: error %d", i, c, err)
			}
		}
	}
}

// P5.3

func withEpoch(epoch int) Root {
	r := middle()
	r.Epoch = epoch
	return r
}

func TestChooseTakesTheHigherEpoch(t *testing.T) {
	for _, c := range []struct{ a, b, want int }{
		{0, 1, 1}, {2, 1, 0}, {6, 5, 0}, {6, 7, 1}, {0, 1<<40 - 1, 1}, {1 << 40, 1<<40 - 1, 0}, {1 << 40, 1, 0},
		{256, 255, 0}, {254, 255, 1}, {1 << 32, 1<<32 - 1, 0}, {1<<32 - 2, 1<<32 + 1, 1},
	} {
		want := []Root{withEpoch(c.a), withEpoch(c.b)}[c.want]
		checkChoose(t, "two that count", laid(withEpoch(c.a)), laid(withEpoch(c.b)), want, c.want)
	}
}

func TestChooseTellsAllOfTheRoot(t *testing.T) {
	even, odd := most(), example()
	checkChoose(t, "the even one", laid(even), laid(odd), even, 0)
	odd.Epoch, even.Epoch = 7, 6
	checkChoose(t, "the odd one", laid(even), laid(odd), odd, 1)
}

func TestChooseOfOneThatCounts(t *testing.T) {
	even, odd := withEpoch(6), withEpoch(5)
	a, b := laid(even), laid(odd)
	torn := slices.Clone(laid(withEpoch(8)))
	torn[9] = 0
	worn := slices.Clone(laid(withEpoch(9)))
	worn[50]++
	for _, none := range [][]byte{nil, {}, a[:255], append(slices.Clone(a), 0), make([]byte, 256), torn, worn,
		sealed(make([]byte, 246))} {
		checkChoose(t, "the first alone", a, none, even, 0)
		checkChoose(t, "the second alone", none, b, odd, 1)
	}
	checkChoose(t, "the first twice", a, a, even, 0)
	checkChoose(t, "the second twice", b, b, odd, 1)
}

func TestChooseWhereAHigherEpochIsInTheOthersPlace(t *testing.T) {
	checkChoose(t, "an even one as the second", laid(withEpoch(6)), laid(withEpoch(8)), withEpoch(6), 0)
	checkChoose(t, "an odd one as the first", laid(withEpoch(7)), laid(withEpoch(5)), withEpoch(5), 1)
	checkChoose(t, "an even one of 2^40 as the second", laid(withEpoch(0)), laid(withEpoch(1<<40)), withEpoch(0), 0)
}

func TestChooseOfNoneThatCounts(t *testing.T) {
	a, b := laid(withEpoch(6)), laid(withEpoch(5))
	checkChooseNone(t, "each in the other's place", b, a)
	checkChooseNone(t, "each in the other's place, the higher one first", laid(withEpoch(7)), a)
	checkChooseNone(t, "nil", nil, nil)
	checkChooseNone(t, "empty", []byte{}, nil)
	checkChooseNone(t, "zeros", make([]byte, 256), make([]byte, 256))
	checkChooseNone(t, "an odd one as the first alone", b, nil)
	checkChooseNone(t, "an even one as the second alone", nil, a)
	checkChooseNone(t, "too short", a[:255], b[:255])
	checkChooseNone(t, "too long", append(slices.Clone(a), 0), append(slices.Clone(b), 0))
	wornA, wornB := slices.Clone(a), slices.Clone(b)
	wornA[30]++
	wornB[255]++
	checkChooseNone(t, "both worn", wornA, wornB)
}

// P5.4

func TestSameOfEqualRoots(t *testing.T) {
	for _, r := range samples() {
		if !Same(r, r) || !Same(r, copyOf(r)) {
			t.Errorf("not Same(%v) of itself", r)
		}
	}
	if !Same(Root{}, Root{}) {
		t.Error("not Same of zeros")
	}
}

func TestSameOfRootsThatPartInOneField(t *testing.T) {
	change := []func(r *Root){
		func(r *Root) { r.Epoch++ },
		func(r *Root) { r.Epoch = -r.Epoch },
		func(r *Root) { r.Epoch += 1 << 48 },
		func(r *Root) { r.Blocks++ },
		func(r *Root) { r.Blocks += 65536 },
		func(r *Root) { r.Next++ },
		func(r *Root) { r.Start++ },
		func(r *Root) { r.Tables[0]++ },
		func(r *Root) { r.Tables[2]++ },
		func(r *Root) { r.Tables = r.Tables[:2] },
		func(r *Root) { r.Tables = append(r.Tables, 0) },
		func(r *Root) { r.Tables = nil },
		func(r *Root) { slices.Reverse(r.Tables) },
		func(r *Root) { r.Maps[0]++ },
		func(r *Root) { r.Maps[1]++ },
		func(r *Root) { r.Maps = r.Maps[:1] },
		func(r *Root) { r.Maps = append(r.Maps, 0) },
		func(r *Root) { r.Maps = nil },
		func(r *Root) { slices.Reverse(r.Maps) },
		func(r *Root) { r.Tables, r.Maps = r.Tables[:2], append([]int{r.Tables[2]}, r.Maps...) },
		func(r *Root) { r.Tables, r.Maps = r.Maps, r.Tables },
		func(r *Root) { r.Next, r.Start = r.Start, r.Next },
	}
	for i, do := range change {
		r := middle()
		do(&r)
		if Same(r, middle()) || Same(middle(), r) {
			t.Errorf("Same(%v, %v), by change %d", r, middle(), i)
		}
	}
}

func TestSameOfNilAndEmptyLists(t *testing.T) {
	none := Root{Epoch: 1, Blocks: 2}
	empty := Root{Epoch: 1, Blocks: 2, Tables: []int{}, Maps: []int{}}
	if !Same(none, empty) || !Same(empty, none) {
		t.Error("nil and empty lists aren't the same")
	}
	if !bytes.Equal(put(t, none), put(t, empty)) {
		t.Error("nil and empty lists are laid unlike")
	}
	if Same(none, Root{Epoch: 1, Blocks: 2, Tables: []int{0}}) || Same(empty, Root{Epoch: 1, Blocks: 2, Maps: []int{0}}) {
		t.Error("a list with a 0 is the same as an empty one")
	}
}

func TestSameOfRootsThatMayNotBe(t *testing.T) {
	r := Root{Epoch: -1, Blocks: math.MaxInt, Next: -9, Start: math.MinInt, Tables: make([]int, 300), Maps: make([]int, 300)}
	if !Same(r, copyOf(r)) {
		t.Error("not Same of a root that may not be")
	}
}

// P5.5

func TestTheFirstBytesOfANewRootOverAnOldOne(t *testing.T) {
	for _, old := range samples() {
		for _, newer := range samples() {
			if old.Epoch != newer.Epoch {
				checkTorn(t, old, newer)
			}
		}
	}
	for _, c := range [][2]int{{6, 8}, {8, 6}, {254, 256}, {256, 254}, {255, 257}, {65534, 65536}, {0, 1 << 40}, {1<<40 - 1, 1 << 40}, {1, 257}} {
		checkTorn(t, withEpoch(c[0]), withEpoch(c[1]))
		checkTorn(t, withEpoch(c[0]), Root{Epoch: c[1], Blocks: 700})
	}
}

// checkTorn writes, for each length, so many bytes of the new root over the
// old one's: the block is the one's, the other's, or none.
func checkTorn(t *testing.T, old, newer Root) {
	t.Helper()
	was, now := put(t, old), put(t, newer)
	for n := range 257 {
		b := slices.Concat(now[:n], was[n:])
		r, err := Get(b)
		switch {
		case bytes.Equal(b, was):
			if err != api.OK || !alike(r, old) {
				t.Errorf("%d bytes that change nothing: %v, %d; want %v", n, r, err, old)
			}
		case bytes.Equal(b, now):
			if err != api.OK || !alike(r, newer) {
				t.Errorf("%d bytes that change all: %v, %d; want %v", n, r, err, newer)
			}
		default:
			if err != api.ErrCut {
				t.Errorf("%d bytes of %v over %v: error %d; want %d", n, newer, old, err, api.ErrCut)
			}
			checkZero(t, "a torn root", r)
		}
	}
}

func TestATornRootLeavesTheOther(t *testing.T) {
	old, other, newer := withEpoch(6), withEpoch(7), Root{Epoch: 8, Blocks: 700, Tables: []int{9}}
	was, now := laid(old), laid(newer)
	for n := range 257 {
		want, number := other, 1
		if n == 256 {
			want, number = newer, 0
		}
		checkChoose(t, "a torn root", slices.Concat(now[:n], was[n:]), laid(other), want, number)
	}
}

// What is handed in or out and changed behind the call

func TestArgumentsAreLeftAsTheyWere(t *testing.T) {
	for _, r := range samples() {
		was := copyOf(r)
		block := laid(r)
		blockWas := slices.Clone(block)
		Check(r)
		Put(r)
		Same(r, r)
		Get(block)
		Choose(block, block)
		if !alike(r, was) {
			t.Errorf("a root was changed: %v; want %v", r, was)
		}
		if !bytes.Equal(block, blockWas) {
			t.Errorf("the block of %v was changed", r)
		}
	}
}

func TestArgumentsSpareRoomIsLeftAsItWas(t *testing.T) {
	tables, maps := []int{2, 3, 77}, []int{4, 88}
	r := Root{Blocks: 9, Tables: tables[:2], Maps: maps[:1]}
	put(t, r)
	Check(r)
	Same(r, r)
	long := append(laid(r), 1, 2, 3)
	Get(long[:256])
	Choose(long[:256], long[:256])
	if tables[2] != 77 || maps[1] != 88 || !bytes.Equal(long[256:], []byte{1, 2, 3}) {
		t.Error("what stands behind an argument was changed")
	}
}

func TestPutsAnswerIsNewMemory(t *testing.T) {
	r := middle()
	b := put(t, r)
	want := slices.Clone(b)
	r.Tables[0], r.Maps[0] = 5, 6
	if !bytes.Equal(b, want) {
		t.Error("a block has changed with its root")
	}
	r = middle()
	other := put(t, r)
	clear(b[:cap(b)])
	if !bytes.Equal(other, want) || !bytes.Equal(put(t, r), want) {
		t.Error("two blocks share memory")
	}
}

func TestGetsAnswerIsNewMemory(t *testing.T) {
	b := laid(middle())
	r, _ := Get(b)
	other, _ := Get(b)
	clear(b)
	if !alike(r, middle()) {
		t.Errorf("a root has changed with its block: %v", r)
	}
	_ = append(r.Tables, 7, 7, 7, 7)
	_ = append(r.Maps, 7, 7, 7, 7)
	if !alike(r, middle()) {
		t.Errorf("a root's lists share memory: %v", r)
	}
	clear(r.Tables[:cap(r.Tables)])
	if !slices.Equal(r.Maps, middle().Maps) {
		t.Errorf("a root's lists share memory: %v", r)
	}
	clear(r.Maps[:cap(r.Maps)])
	if !alike(other, middle()) {
		t.Errorf("two roots share memory: %v", other)
	}
}

func TestChoosesAnswerIsNewMemory(t *testing.T) {
	a, b := laid(withEpoch(6)), laid(withEpoch(5))
	r, _, _ := Choose(a, b)
	clear(a)
	clear(b)
	if !alike(r, withEpoch(6)) {
		t.Errorf("a root has changed with its block: %v", r)
	}
}
