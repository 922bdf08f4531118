package disk

import (
	"bytes"
	"fmt"
	"math"
	"slices"
	"testing"

	"intarsia/api"
)

// full is a block of one byte's kind.
func full(c byte) []byte { return bytes.Repeat([]byte{c}, api.BlockSize) }

// unlike is a block no two neighbours of which are alike, and that differs
// from another seed's at every place.
func unlike(seed int) []byte {
	b := make([]byte, api.BlockSize)
	for i := range b {
		b[i] = byte(i*7 + seed)
	}
	return b
}

// torn is the first t bytes of b, and the others of safe.
func torn(b, safe []byte, t int) []byte { return slices.Concat(b[:t], safe[t:]) }

func checkErr(t *testing.T, what string, got, want api.Errno) {
	t.Helper()
	if got != want {
		t.Errorf("%s: error %d; want %d", what, int(got), int(want))
	}
}

func checkRead(t *testing.T, d *Disk, n int, want []byte) {
	t.Helper()
	b, err := d.Read(n)
	checkErr(t, fmt.Sprintf("Read(%d)", n), err, api.OK)
	if !bytes.Equal(b, want) {
		t.Errorf("Read(%d) = % x; want % x", n, b, want)
	}
}

func checkReadErr(t *testing.T, d *Disk, n int, want api.Errno) {
	t.Helper()
	b, err := d.Read(n)
	checkErr(t, fmt.Sprintf("Read(%d)", n), err, want)
	if b != nil {
		t.Errorf("Read(%d) tells an error and bytes", n)
	}
}

func checkLoose(t *testing.T, d *Disk, want ...int) {
	t.Helper()
	if got := d.Loose(); !slices.Equal(got, want) {
		t.Errorf("Loose() = %v; want %v", got, want)
	}
}

func checkCounts(t *testing.T, d *Disk, ops, reads int) {
	t.Helper()
	if d.Ops() != ops || d.Reads() != reads {
		t.Errorf("Ops, Reads = %d, %d; want %d, %d", d.Ops(), d.Reads(), ops, reads)
	}
}

func checkDown(t *testing.T, d *Disk, want bool) {
	t.Helper()
	if d.Down() != want {
		t.Errorf("Down() = %v; want %v", d.Down(), want)
	}
}

func write(t *testing.T, d *Disk, n int, b []byte) {
	t.Helper()
	checkErr(t, fmt.Sprintf("Write(%d)", n), d.Write(n, b), api.OK)
}

func sync(t *testing.T, d *Disk) {
	t.Helper()
	checkErr(t, "Sync", d.Sync(), api.OK)
}

func fail(t *testing.T, d *Disk, after int, done bool) {
	t.Helper()
	checkErr(t, fmt.Sprintf("Fail(%d, %v)", after, done), d.Fail(after, done), api.OK)
}

// synced is a disk whose blocks are unlike ones, and safe.
func synced(t *testing.T, blocks int) *Disk {
	t.Helper()
	d := New(blocks)
	for n := range blocks {
		write(t, d, n, unlike(n))
	}
	sync(t, d)
	return d
}

// failed is such a disk whose power has failed.
func failed(t *testing.T, blocks int) *Disk {
	t.Helper()
	d := synced(t, blocks)
	fail(t, d, 0, false)
	checkErr(t, "Sync", d.Sync(), api.ErrDown)
	return d
}

// P3.1

func TestBlocksAreNoughtsAtFirst(t *testing.T) {
	d := New(3)
	for n := range 3 {
		checkRead(t, d, n, full(0))
	}
	checkLoose(t, d)
}

func TestReadTellsWhatWasWrittenLast(t *testing.T) {
	d := New(5)
	write(t, d, 3, unlike(1))
	checkRead(t, d, 3, unlike(1))
	write(t, d, 3, unlike(2))
	checkRead(t, d, 3, unlike(2))
	sync(t, d)
	checkRead(t, d, 3, unlike(2))
	write(t, d, 3, unlike(3))
	write(t, d, 0, unlike(4))
	checkRead(t, d, 3, unlike(3))
	checkRead(t, d, 0, unlike(4))
	for _, n := range []int{1, 2, 4} {
		checkRead(t, d, n, full(0))
	}
}

func TestBlocksFromZeroToTheLast(t *testing.T) {
	for _, blocks := range []int{1, 2, 7, api.MaxBlocks} {
		d := New(blocks)
		write(t, d, 0, unlike(1))
		write(t, d, blocks-1, unlike(2))
		checkRead(t, d, blocks-1, unlike(2))
		for _, n := range []int{-1, blocks, blocks + 1, math.MinInt, math.MaxInt} {
			checkErr(t, "Write beside the disk", d.Write(n, unlike(3)), api.ErrRange)
			checkReadErr(t, d, n, api.ErrRange)
		}
		checkRead(t, d, blocks-1, unlike(2))
		checkCounts(t, d, 2, 2)
	}
	none := New(0)
	checkErr(t, "Write to no block", none.Write(0, full(1)), api.ErrRange)
	checkReadErr(t, none, 0, api.ErrRange)
	sync(t, none)
}

func TestWriteOfAWrongLength(t *testing.T) {
	d := synced(t, 2)
	for _, n := range []int{0, 1, 255, 257, 512} {
		checkErr(t, fmt.Sprintf("Write of %d bytes", n), d.Write(1, make([]byte, n)), api.ErrArg)
	}
	checkErr(t, "Write of nil", d.Write(1, nil), api.ErrArg)
	checkErr(t, "Write of bytes with room", d.Write(1, full(9)[:255]), api.ErrArg)
	checkLoose(t, d)
	checkRead(t, d, 1, unlike(1))
	checkCounts(t, d, 3, 1)
	write(t, d, 1, full(9))
	checkLoose(t, d, 1)
}

func TestWriteMakesLooseAndSyncSafe(t *testing.T) {
	d := New(9)
	for _, n := range []int{7, 0, 8, 3, 0, 7} {
		write(t, d, n, unlike(n))
	}
	checkLoose(t, d, 0, 3, 7, 8)
	sync(t, d)
	checkLoose(t, d)
	sync(t, d)
	checkLoose(t, d)
	write(t, d, 3, unlike(3))
	checkLoose(t, d, 3)
	checkRead(t, d, 8, unlike(8))
	checkLoose(t, d, 3)
}

func TestTheErrorThatIsNamedFirst(t *testing.T) {
	var none *Disk
	checkErr(t, "Write to nil", none.Write(-1, nil), api.ErrNil)
	checkReadErr(t, none, 0, api.ErrNil)
	checkErr(t, "Sync of nil", none.Sync(), api.ErrNil)
	checkErr(t, "Fail of nil", none.Fail(-1, true), api.ErrNil)

	d := failed(t, 2)
	for _, n := range []int{-1, 0, 1, 2} {
		checkErr(t, "Write without power", d.Write(n, full(1)), api.ErrDown)
		checkErr(t, "Write of nil without power", d.Write(n, nil), api.ErrDown)
		checkReadErr(t, d, n, api.ErrDown)
	}
	checkErr(t, "Sync without power", d.Sync(), api.ErrDown)
	checkErr(t, "Fail without power", d.Fail(-1, false), api.ErrDown)

	d = New(2)
	checkErr(t, "Write of nil beside the disk", d.Write(2, nil), api.ErrRange)
	checkErr(t, "Write of nil ahead of it", d.Write(-1, nil), api.ErrRange)
}

// P3.2

func TestOpsAndReadsCountWhatFoundNoError(t *testing.T) {
	d := New(2)
	checkCounts(t, d, 0, 0)
	write(t, d, 0, full(1))
	checkCounts(t, d, 1, 0)
	sync(t, d)
	checkCounts(t, d, 2, 0)
	d.Read(1)
	d.Read(0)
	checkCounts(t, d, 2, 2)
	d.Read(2)
	d.Read(-1)
	d.Write(2, full(1))
	d.Write(0, full(1)[1:])
	d.Fail(-1, true)
	checkCounts(t, d, 2, 2)
	d.Crash(nil)
	d.Fail(9, true)
	d.Loose()
	d.Fork()
	checkCounts(t, d, 2, 2)
	sync(t, d)
	checkCounts(t, d, 3, 2)

	d = failed(t, 2)
	checkCounts(t, d, 4, 0)
	d.Read(0)
	d.Write(0, full(1))
	d.Sync()
	checkCounts(t, d, 4, 0)
	d.Crash(nil)
	d.Read(0)
	sync(t, d)
	checkCounts(t, d, 5, 1)
}

func TestFailAtAWrite(t *testing.T) {
	for _, after := range []int{0, 1, 2, 5} {
		for _, done := range []bool{false, true} {
			d := synced(t, 8)
			fail(t, d, after, done)
			want := []int{}
			for n := range after {
				write(t, d, n, full(99))
				want = append(want, n)
			}
			checkDown(t, d, false)
			checkErr(t, "the Write that fails", d.Write(7, full(88)), api.ErrDown)
			checkDown(t, d, true)
			checkCounts(t, d, 9+after+1, 0)
			safe := unlike(7)
			if done {
				want, safe = append(want, 7), full(88)
			}
			checkLoose(t, d, want...)
			checkErr(t, "a Write behind it", d.Write(6, full(88)), api.ErrDown)
			checkErr(t, "a Sync behind it", d.Sync(), api.ErrDown)
			checkCounts(t, d, 9+after+1, 0)
			checkLoose(t, d, want...)

			d.Crash(bytes.Repeat([]byte{1}, 8))
			checkRead(t, d, 7, safe)
			checkRead(t, d, 6, unlike(6))
		}
	}
}

func TestFailAtASync(t *testing.T) {
	d := synced(t, 3)
	write(t, d, 1, full(9))
	fail(t, d, 1, false)
	write(t, d, 2, full(9))
	checkErr(t, "the Sync that fails", d.Sync(), api.ErrDown)
	checkDown(t, d, true)
	checkLoose(t, d, 1, 2)
	d.Crash(nil)
	checkRead(t, d, 1, unlike(1))
	checkRead(t, d, 2, unlike(2))

	d = synced(t, 3)
	write(t, d, 1, full(9))
	fail(t, d, 1, true)
	write(t, d, 2, full(9))
	checkErr(t, "the Sync that fails", d.Sync(), api.ErrDown)
	checkDown(t, d, true)
	checkLoose(t, d)
	d.Crash(nil)
	checkRead(t, d, 1, full(9))
	checkRead(t, d, 2, full(9))
}

func TestFailCountsSyncsAndWritesAlone(t *testing.T) {
	d := synced(t, 2)
	fail(t, d, 2, true)
	d.Read(0)
	d.Read(9)
	d.Write(2, full(1))
	d.Write(-1, full(1))
	d.Write(0, full(1)[1:])
	d.Loose()
	d.Fork().Sync()
	sync(t, d)
	d.Read(0)
	write(t, d, 0, full(1))
	checkRead(t, d, 0, full(1))
	checkDown(t, d, false)
	checkErr(t, "a Write with a wrong length", d.Write(0, nil), api.ErrArg)
	checkErr(t, "a Write beside the disk", d.Write(2, full(1)), api.ErrRange)
	checkDown(t, d, false)
	checkErr(t, "the Sync that fails", d.Sync(), api.ErrDown)
	checkDown(t, d, true)
}

func TestFailOfAWrongNumberChangesNothing(t *testing.T) {
	d := New(1)
	for _, after := range []int{-1, -2, math.MinInt} {
		checkErr(t, "Fail below 0", d.Fail(after, true), api.ErrArg)
	}
	sync(t, d)
	fail(t, d, 1, true)
	checkErr(t, "Fail below 0", d.Fail(-1, false), api.ErrArg)
	sync(t, d)
	checkErr(t, "the Write that fails", d.Write(0, full(1)), api.ErrDown)
	checkLoose(t, d, 0)
	checkErr(t, "Fail without power", d.Fail(0, true), api.ErrDown)
	d.Crash(nil)
	sync(t, d)
}

func TestFailFarAway(t *testing.T) {
	d := New(1)
	fail(t, d, math.MaxInt, true)
	for range 1000 {
		sync(t, d)
	}
	checkDown(t, d, false)
}

func TestFailAgainTakesThePlaceOfTheOneWaitedFor(t *testing.T) {
	d := New(1)
	fail(t, d, 5, true)
	fail(t, d, 0, false)
	checkErr(t, "the Write that fails", d.Write(0, full(1)), api.ErrDown)
	checkLoose(t, d)

	d = New(1)
	fail(t, d, 0, false)
	fail(t, d, 2, true)
	sync(t, d)
	sync(t, d)
	checkErr(t, "the Write that fails", d.Write(0, full(1)), api.ErrDown)
	checkLoose(t, d, 0)

	d = New(1)
	fail(t, d, 1, true)
	sync(t, d)
	fail(t, d, 1, false)
	sync(t, d)
	checkErr(t, "the Write that fails", d.Write(0, full(1)), api.ErrDown)
	checkLoose(t, d)
}

func TestFailAnewBehindACrash(t *testing.T) {
	d := failed(t, 2)
	d.Crash(nil)
	for range 5 {
		sync(t, d)
	}
	fail(t, d, 0, false)
	checkErr(t, "the Write that fails", d.Write(0, full(1)), api.ErrDown)
	d.Crash(nil)
	checkDown(t, d, false)
	sync(t, d)
}

// P3.3

func TestCrashOfTheExample(t *testing.T) {
	d := New(2)
	x, y := unlike(1), unlike(2)
	write(t, d, 1, x)
	sync(t, d)
	write(t, d, 1, y)
	d.Crash([]byte{2, 3})
	checkRead(t, d, 1, torn(y, x, 3))
	checkRead(t, d, 0, full(0))
}

func TestCrashByEachFate(t *testing.T) {
	x, y := unlike(1), unlike(2)
	for c := range 256 {
		for _, cut := range []int{0, 1, 3, 128, 254, 255} {
			d := New(1)
			write(t, d, 0, x)
			sync(t, d)
			write(t, d, 0, y)
			d.Crash([]byte{byte(c), byte(cut)})
			want := [][]byte{x, y, torn(y, x, cut)}[c%3]
			checkRead(t, d, 0, want)
			checkLoose(t, d)
		}
	}
}

func TestCrashTearsAtEachByte(t *testing.T) {
	x, y := unlike(1), unlike(2)
	for cut := range 256 {
		d := New(1)
		write(t, d, 0, y)
		d.Crash([]byte{5, byte(cut)})
		checkRead(t, d, 0, torn(y, full(0), cut))
		write(t, d, 0, x)
		d.Crash([]byte{2, byte(cut)})
		checkRead(t, d, 0, torn(x, torn(y, full(0), cut), cut))
	}
}

func TestCrashTakesFateByRisingNumbers(t *testing.T) {
	d := synced(t, 8)
	for _, n := range []int{7, 2, 5, 0, 3} {
		write(t, d, n, unlike(100+n))
	}
	d.Crash([]byte{1, 2, 10, 255, 254, 200, 2, 7, 1})
	checkRead(t, d, 0, unlike(100))
	checkRead(t, d, 1, unlike(1))
	checkRead(t, d, 2, torn(unlike(102), unlike(2), 10))
	checkRead(t, d, 3, unlike(3))
	checkRead(t, d, 4, unlike(4))
	checkRead(t, d, 5, torn(unlike(105), unlike(5), 200))
	checkRead(t, d, 6, unlike(6))
	checkRead(t, d, 7, torn(unlike(107), unlike(7), 7))
}

func TestCrashWhoseFateRunsOut(t *testing.T) {
	for _, c := range []struct {
		fate []byte
		kept []int // how many first bytes stay of each block
	}{
		{nil, []int{0, 0, 0}},
		{[]byte{}, []int{0, 0, 0}},
		{[]byte{1}, []int{256, 0, 0}},
		{[]byte{1, 1}, []int{256, 256, 0}},
		{[]byte{2}, []int{0, 0, 0}},
		{[]byte{2, 9}, []int{9, 0, 0}},
		{[]byte{0, 1, 2}, []int{0, 256, 0}},
		{[]byte{2, 2, 2, 2, 2}, []int{2, 2, 0}},
		{[]byte{2, 1, 1, 2, 1}, []int{1, 256, 1}},
		{[]byte{1, 1, 1, 2, 5, 1}, []int{256, 256, 256}},
	} {
		d := synced(t, 3)
		for n := range 3 {
			write(t, d, n, unlike(50+n))
		}
		d.Crash(c.fate)
		for n, kept := range c.kept {
			checkRead(t, d, n, torn(unlike(50+n), unlike(n), kept))
		}
	}
}

func TestCrashOfABlockWrittenSeveralTimes(t *testing.T) {
	d := synced(t, 1)
	write(t, d, 0, unlike(50))
	write(t, d, 0, unlike(60))
	write(t, d, 0, unlike(70))
	half := d.Fork()
	d.Crash(nil)
	checkRead(t, d, 0, unlike(0))
	half.Crash([]byte{2, 128})
	checkRead(t, half, 0, torn(unlike(70), unlike(0), 128))
}

func TestBehindACrashAllIsSafe(t *testing.T) {
	d := synced(t, 2)
	write(t, d, 0, unlike(50))
	write(t, d, 1, unlike(51))
	d.Crash([]byte{2, 10, 1})
	checkLoose(t, d)
	d.Crash([]byte{1, 1, 1})
	first := torn(unlike(50), unlike(0), 10)
	checkRead(t, d, 0, first)
	checkRead(t, d, 1, unlike(51))
	write(t, d, 0, unlike(60))
	write(t, d, 1, unlike(61))
	d.Crash([]byte{0, 2, 20})
	checkRead(t, d, 0, first)
	checkRead(t, d, 1, torn(unlike(61), unlike(51), 20))
}

func TestBehindACrashThePowerIsThereAndFailForgotten(t *testing.T) {
	d := failed(t, 1)
	d.Crash(nil)
	checkDown(t, d, false)
	checkRead(t, d, 0, unlike(0))
	sync(t, d)

	d = synced(t, 1)
	fail(t, d, 0, true)
	d.Crash([]byte{1})
	checkDown(t, d, false)
	sync(t, d)
	write(t, d, 0, full(1))
	checkLoose(t, d, 0)
}

func TestCrashOfNoLooseBlock(t *testing.T) {
	d := synced(t, 3)
	d.Crash([]byte{2, 0, 1, 0, 2, 2})
	for n := range 3 {
		checkRead(t, d, n, unlike(n))
	}
	New(0).Crash([]byte{2, 2})
}

// P3.4

func TestNewOfHowManyBlocks(t *testing.T) {
	for _, c := range []struct{ blocks, want int }{
		{-1, 0}, {math.MinInt, 0}, {0, 0}, {1, 1}, {2, 2}, {4095, 4095}, {4096, 4096},
		{4097, 4096}, {math.MaxInt, 4096},
	} {
		d := New(c.blocks)
		if d == nil || d.Blocks() != c.want {
			t.Errorf("New(%d) has %d blocks; want %d", c.blocks, d.Blocks(), c.want)
		}
		checkDown(t, d, false)
		checkLoose(t, d)
		checkCounts(t, d, 0, 0)
		checkReadErr(t, d, c.want, api.ErrRange)
	}
}

func TestLooseRises(t *testing.T) {
	d := New(300)
	want := []int{}
	for i := range 200 {
		write(t, d, i*167%300, full(1))
		want = append(want, i*167%300)
	}
	slices.Sort(want)
	checkLoose(t, d, slices.Compact(want)...)
}

func TestLooksWithoutPower(t *testing.T) {
	d := synced(t, 4)
	d.Read(0)
	write(t, d, 3, full(1))
	fail(t, d, 0, true)
	d.Write(2, full(1))
	checkDown(t, d, true)
	checkLoose(t, d, 2, 3)
	checkCounts(t, d, 7, 1)
	if d.Blocks() != 4 {
		t.Errorf("Blocks() = %d; want 4", d.Blocks())
	}
}

func TestForkIsAsItsDisk(t *testing.T) {
	d := synced(t, 4)
	write(t, d, 1, unlike(51))
	write(t, d, 2, unlike(52))
	d.Read(0)
	fail(t, d, 1, true)
	f := d.Fork()
	checkDown(t, f, false)
	checkLoose(t, f, 1, 2)
	checkCounts(t, f, 7, 1)
	if f.Blocks() != 4 {
		t.Errorf("Blocks() = %d; want 4", f.Blocks())
	}
	write(t, f, 0, unlike(50))
	checkErr(t, "the Write that fails", f.Write(3, unlike(53)), api.ErrDown)
	checkLoose(t, f, 0, 1, 2, 3)

	down := f.Fork()
	checkDown(t, down, true)
	checkCounts(t, down, 9, 1)
	checkReadErr(t, down, 0, api.ErrDown)
	down.Crash([]byte{0, 1, 2, 9, 1})
	checkRead(t, down, 0, unlike(0))
	checkRead(t, down, 1, unlike(51))
	checkRead(t, down, 2, torn(unlike(52), unlike(2), 9))
	checkRead(t, down, 3, unlike(53))
	checkDown(t, f, true)
}

func TestForkGoesOnApart(t *testing.T) {
	d := synced(t, 3)
	write(t, d, 1, unlike(51))
	f := d.Fork()

	write(t, f, 0, unlike(60))
	write(t, f, 1, unlike(61))
	sync(t, f)
	fail(t, f, 0, true)
	f.Sync()
	checkDown(t, d, false)
	checkLoose(t, d, 1)
	checkCounts(t, d, 5, 0)
	checkRead(t, d, 0, unlike(0))
	checkRead(t, d, 1, unlike(51))
	write(t, d, 2, unlike(52))
	d.Crash(nil)
	checkRead(t, d, 1, unlike(1))
	checkRead(t, d, 2, unlike(2))

	checkDown(t, f, true)
	f.Crash(nil)
	checkRead(t, f, 0, unlike(60))
	checkRead(t, f, 1, unlike(61))
	checkRead(t, f, 2, unlike(2))
}

func TestDiskGoesOnApartFromItsFork(t *testing.T) {
	d := synced(t, 2)
	write(t, d, 0, unlike(50))
	f := d.Fork()
	write(t, d, 0, unlike(60))
	write(t, d, 1, unlike(61))
	sync(t, d)
	fail(t, d, 0, false)
	d.Sync()
	checkDown(t, f, false)
	checkLoose(t, f, 0)
	checkRead(t, f, 0, unlike(50))
	checkRead(t, f, 1, unlike(1))
	sync(t, f)
	write(t, f, 1, unlike(71))
	f.Crash(nil)
	checkRead(t, f, 0, unlike(50))
	checkRead(t, f, 1, unlike(1))
}

func TestOfNilNothing(t *testing.T) {
	var d *Disk
	d.Crash([]byte{1, 2, 3})
	checkDown(t, d, false)
	checkLoose(t, d)
	checkCounts(t, d, 0, 0)
	if d.Blocks() != 0 || d.Fork() != nil {
		t.Error("nil has blocks, or a fork")
	}
}

// P3.5

// fates tells all bytes that three loose blocks may take, with few places to
// tear at.
func fates() [][]byte {
	one := [][]byte{{0}, {1}, {2, 0}, {2, 100}, {2, 255}}
	var all [][]byte
	for _, a := range one {
		for _, b := range one {
			for _, c := range one {
				all = append(all, slices.Concat(a, b, c))
			}
		}
	}
	return all
}

// play writes to blocks 0, 2 and 5 of 6, with syncs between; it tells what
// went well of it.
func play(d *Disk) int {
	steps := []func() api.Errno{
		func() api.Errno { return d.Write(2, unlike(82)) },
		func() api.Errno { return d.Write(0, unlike(80)) },
		func() api.Errno { return d.Write(5, unlike(85)) },
		d.Sync,
		func() api.Errno { return d.Write(5, unlike(95)) },
		func() api.Errno { return d.Write(0, unlike(90)) },
		d.Sync,
	}
	for i, step := range steps {
		if step() != api.OK {
			return i
		}
	}
	return len(steps)
}

func TestWhatWasSyncedStays(t *testing.T) {
	for after := range 8 {
		for _, done := range []bool{false, true} {
			ahead := synced(t, 6)
			fail(t, ahead, after, done)
			if went := play(ahead); went != after {
				t.Fatalf("%d steps went well; want %d", went, after)
			}
			settled := after
			if done && after < 7 {
				settled++
			}
			for _, fate := range fates() {
				d := ahead.Fork()
				d.Crash(fate)
				for _, n := range []int{1, 3, 4} {
					checkRead(t, d, n, unlike(n))
				}
				if settled >= 4 {
					checkRead(t, d, 2, unlike(82))
				}
				if settled >= 7 {
					checkRead(t, d, 0, unlike(90))
					checkRead(t, d, 5, unlike(95))
				}
			}
		}
	}
}

func TestWhatWasSyncedStaysBehindManyCrashes(t *testing.T) {
	d := synced(t, 6)
	for _, fate := range fates() {
		for _, n := range []int{0, 2, 5} {
			write(t, d, n, unlike(100+n))
		}
		d.Crash(fate)
		for _, n := range []int{1, 3, 4} {
			checkRead(t, d, n, unlike(n))
		}
	}
}

// Rule 3 of the document: arguments are not changed and not kept, answers are
// new memory.

func TestArgumentsAreLeftAndNotKept(t *testing.T) {
	d := New(1)
	b := unlike(1)
	write(t, d, 0, b)
	if !bytes.Equal(b, unlike(1)) {
		t.Error("Write changed its bytes")
	}
	clear(b)
	checkRead(t, d, 0, unlike(1))
	sync(t, d)
	b = unlike(2)
	write(t, d, 0, b)
	clear(b)
	fate := []byte{2, 9, 1, 0}
	d.Crash(fate)
	if !bytes.Equal(fate, []byte{2, 9, 1, 0}) {
		t.Error("Crash changed its fate")
	}
	checkRead(t, d, 0, torn(unlike(2), unlike(1), 9))
}

func TestAnswersAreNew(t *testing.T) {
	d := synced(t, 3)
	write(t, d, 1, unlike(51))
	write(t, d, 2, unlike(52))
	for n, want := range [][]byte{unlike(0), unlike(51), unlike(52)} {
		b, _ := d.Read(n)
		clear(b[:cap(b)])
		_ = append(b[:0], full(7)...)
		checkRead(t, d, n, want)
	}
	loose := d.Loose()
	loose[0], loose[1] = 0, 7
	clear(loose[:cap(loose)])
	checkLoose(t, d, 1, 2)
	d.Crash(nil)
	checkRead(t, d, 1, unlike(1))
	checkRead(t, d, 2, unlike(2))
}

// Rule 4: two disks have nothing in common.

func TestTwoDisksHaveNothingInCommon(t *testing.T) {
	d, other := New(2), New(2)
	write(t, d, 0, unlike(1))
	fail(t, d, 0, true)
	d.Sync()
	checkDown(t, other, false)
	checkLoose(t, other)
	checkCounts(t, other, 0, 0)
	checkRead(t, other, 0, full(0))
	sync(t, other)
}
