package shadow

import (
	"fmt"
	"slices"
	"testing"

	"intarsia/api"
	"intarsia/disk"
	"intarsia/page"
	"intarsia/root"
)

// P7.2

// plan is what a disk is to have: a root, the words of its table, and its map.
type plan struct {
	blocks int
	root   root.Root
	words  []int
	set    []byte
}

// sound is a plan that may be: the pages 1, 3 and 4 upon the blocks 3, 7 and 9,
// the table upon 4, the map upon 6.
func sound() plan {
	return plan{
		blocks: 20,
		root:   root.Root{Epoch: 5, Blocks: 20, Next: 4, Start: 3, Tables: []int{4}, Maps: []int{6}},
		words:  []int{3, 0, 7, 9},
		set:    setOf(20, 0, 1, 3, 4, 6, 7, 9),
	}
}

// laid is a disk as a plan tells, whose pages have their ids as bodies. The
// root and its pages are laid last, so that no word's page stands over them.
func laid(t *testing.T, p plan) *disk.Disk {
	t.Helper()
	d := disk.New(p.blocks)
	for i, n := range p.words {
		if n >= 2 && n < p.blocks {
			put(t, d, n, sealed(t, page.Bucket, i+1, fmt.Append(nil, i+1)))
		}
	}
	words := wordsOf(p.words...)
	for i, n := range p.root.Tables {
		put(t, d, n, sealed(t, page.Table, i, piece(words, i)))
	}
	for i, n := range p.root.Maps {
		put(t, d, n, sealed(t, page.Map, i, piece(p.set, i)))
	}
	b, err := root.Put(p.root)
	checkErr(t, "root.Put", err, api.OK)
	put(t, d, p.root.Epoch%2, b)
	checkErr(t, "Sync", d.Sync(), api.OK)
	return d
}

func piece(b []byte, i int) []byte {
	return b[min(246*i, len(b)):min(246*i+246, len(b))]
}

func put(t *testing.T, d *disk.Disk, n int, b []byte) {
	t.Helper()
	checkErr(t, fmt.Sprintf("the disk's Write(%d)", n), d.Write(n, b), api.OK)
}

func checkOpenErr(t *testing.T, what string, d *disk.Disk, want api.Errno) {
	t.Helper()
	s, err := Open(d)
	checkErr(t, "Open of "+what, err, want)
	if s != nil {
		t.Errorf("Open of %s tells an error and a shadow", what)
	}
}

func TestOpenTellsTheStateOfTheRoot(t *testing.T) {
	d := laid(t, sound())
	ops := d.Ops()
	s := opened(t, d)
	if d.Reads() != 4 || d.Ops() != ops {
		t.Errorf("Reads = %d, and %d writes", d.Reads(), d.Ops()-ops)
	}
	checkLooks(t, s, "start 3 dirty false ids [1 3 4] epoch 5 used 7 bad false")
	for _, id := range []int{1, 3, 4} {
		checkRead(t, s, id, page.Bucket, fmt.Sprint(id))
	}
	checkReadErr(t, s, 2, api.ErrNone)
	checkReadErr(t, s, 5, api.ErrNone)
	alloc(t, s, "two", 2)
	checkBucket(t, d, 2, 2, "two")
	alloc(t, s, "five", 5)
	checkBucket(t, d, 5, 5, "five")
	commit(t, s)
	checkRoot(t, d, 0, root.Root{Epoch: 6, Blocks: 20, Next: 5, Start: 3, Tables: []int{8}, Maps: []int{10}})
	abort(t, s)
	checkLooks(t, s, "start 3 dirty false ids [1 2 3 4 5] epoch 6 used 9 bad false")
}

func TestOpenIsAsBehindTheLastCommit(t *testing.T) {
	d, s := formatted(t, 20)
	checkLooks(t, opened(t, d), looks(s))
	allocs(t, s, 1, 3)
	setStart(t, s, 2)
	commit(t, s)
	checkLooks(t, opened(t, d), looks(s))
	want := countingOf(t, s).text()
	alloc(t, s, "lost", 4)
	write(t, s, 1, "lost")
	free(t, s, 3)
	setStart(t, s, 1)
	o := opened(t, d)
	checkLooks(t, o, "start 2 dirty false ids [1 2 3] epoch 1 used 7 bad false")
	if got := countingOf(t, o).text(); got != want {
		t.Errorf("%s; want %s", got, want)
	}
}

func TestOpenOfNoDisk(t *testing.T) { checkOpenErr(t, "nil", nil, api.ErrNil) }

func TestOpenTellsTheDisksErrors(t *testing.T) {
	for blocks, reads := range []int{0, 1} {
		d := disk.New(blocks)
		checkOpenErr(t, "a small disk", d, api.ErrRange)
		if d.Reads() != reads {
			t.Errorf("of %d blocks: Reads = %d", blocks, d.Reads())
		}
	}
	d := laid(t, sound())
	d.Fail(0, false)
	d.Sync()
	checkOpenErr(t, "a disk without power", d, api.ErrDown)
	d.Crash(nil)
	opened(t, d)
}

func TestOpenOfADiskWithoutARoot(t *testing.T) {
	for _, blocks := range []int{2, 3, 4, 20, 4096} {
		d := disk.New(blocks)
		checkOpenErr(t, "a new disk", d, api.ErrForm)
		if d.Reads() != 2 {
			t.Errorf("Reads = %d", d.Reads())
		}
	}
	d := laid(t, sound())
	put(t, d, 0, raw(t, d, 1))
	put(t, d, 1, make([]byte, 256))
	checkOpenErr(t, "a disk whose root stands in the other block", d, api.ErrForm)
}

func TestOpenOfTheHigherEpoch(t *testing.T) {
	d := laid(t, sound())
	for _, c := range []struct{ epoch, want int }{{4, 5}, {6, 6}} {
		older := sound()
		older.root.Epoch = c.epoch
		b, _ := root.Put(older.root)
		put(t, d, 0, b)
		if s := opened(t, d); s.Epoch() != c.want {
			t.Errorf("Epoch() = %d of %d and 5", s.Epoch(), c.epoch)
		}
	}
}

func TestOpenOfAnotherNumberOfBlocks(t *testing.T) {
	for _, blocks := range []int{10, 19, 21, 24, 4096} {
		p := sound()
		p.root.Blocks = blocks
		d := laid(t, p)
		checkOpenErr(t, fmt.Sprintf("a root of %d blocks upon 20", blocks), d, api.ErrForm)
		if d.Reads() != 2 {
			t.Errorf("Reads = %d: the root is refused ahead of its pages", d.Reads())
		}
	}
}

func TestOpenRefusesPagesThatAreNone(t *testing.T) {
	words, set := wordsOf(sound().words...), sound().set
	flipped := func(b []byte) []byte {
		b[100] ^= 1
		return b
	}
	cases := []struct {
		what  string
		block int
		bytes []byte
		reads int
	}{
		{"a table's page of zeros", 4, make([]byte, 256), 3},
		{"a table's page with a wrong sum", 4, flipped(sealed(t, page.Table, 0, words)), 3},
		{"a table's page of the kind Map", 4, sealed(t, page.Map, 0, words), 3},
		{"a table's page of the kind Bucket", 4, sealed(t, page.Bucket, 0, words), 3},
		{"a table's page with the id 1", 4, sealed(t, page.Table, 1, words), 3},
		{"a table's page with an odd byte", 4, sealed(t, page.Table, 0, append(slices.Clone(words), 0)), 4},
		{"a table's page with half a word", 4, sealed(t, page.Table, 0, words[:7]), 4},
		{"a map's page of zeros", 6, make([]byte, 256), 4},
		{"a map's page with a wrong sum", 6, flipped(sealed(t, page.Map, 0, set)), 4},
		{"a map's page of the kind Table", 6, sealed(t, page.Table, 0, set), 4},
		{"a map's page with the id 1", 6, sealed(t, page.Map, 1, set), 4},
		{"a map with a byte less", 6, sealed(t, page.Map, 0, set[:2]), 4},
		{"a map with a byte more", 6, sealed(t, page.Map, 0, append(slices.Clone(set), 0)), 4},
		{"a map without bytes", 6, sealed(t, page.Map, 0, nil), 4},
	}
	for _, c := range cases {
		d := laid(t, sound())
		put(t, d, c.block, c.bytes)
		checkOpenErr(t, c.what, d, api.ErrForm)
		if d.Reads() != c.reads {
			t.Errorf("%s: Reads = %d; want %d", c.what, d.Reads(), c.reads)
		}
	}
}

// Each word that may stand at each place of the table, with the map that would
// belong to it where there is one.
func TestOpenOfEachWord(t *testing.T) {
	words := append(make([]int, 0, 30), 255, 256, 4096, 65535)
	for n := range 25 {
		words = append(words, n)
	}
	for place := range 4 {
		for _, n := range words {
			p := sound()
			p.words[place] = n
			used := []int{0, 1, 4, 6}
			may := true
			for _, w := range p.words {
				if w == 0 {
					continue
				}
				may = may && w < 20 && !slices.Contains(used, w)
				if w < 24 { // the map's bytes have room for so many
					used = append(used, w)
				}
			}
			p.set = setOf(20, used...)
			may = may && p.words[3] != 0 && p.words[2] != 0
			s, err := Open(laid(t, p))
			if (err == api.OK) != may || (s != nil) != may || !may && err != api.ErrForm {
				t.Errorf("words %v: error %d; want it taken: %v", p.words, int(err), may)
			}
		}
	}
}

func TestOpenOfWordsThatAreNotNext(t *testing.T) {
	for next := range 8 {
		p := sound()
		p.root.Next, p.root.Start = next, min(next, 3)
		if next == 2 {
			p.root.Start = 1
		}
		d := laid(t, p)
		if next == 4 {
			opened(t, d)
			continue
		}
		checkOpenErr(t, fmt.Sprintf("4 words where Next is %d", next), d, api.ErrForm)
	}
	p := sound()
	p.root.Tables = nil
	p.set = setOf(20, 0, 1, 3, 6, 7, 9)
	checkOpenErr(t, "a root without its table", laid(t, p), api.ErrForm)
	p = sound()
	p.root.Next, p.root.Start, p.words = 0, 0, nil
	p.set = setOf(20, 0, 1, 4, 6)
	d := laid(t, p)
	put(t, d, 4, sealed(t, page.Table, 0, []byte{0}))
	checkOpenErr(t, "half a word where Next is 0", d, api.ErrForm)
}

func TestOpenOfALastWordThatIsNone(t *testing.T) {
	p := sound()
	p.words = []int{3, 0, 7, 9, 0}
	p.root.Next = 5
	checkOpenErr(t, "a last word that is 0", laid(t, p), api.ErrForm)
	p.words = []int{0}
	p.root.Next, p.root.Start = 1, 0
	p.set = setOf(20, 0, 1, 4, 6)
	checkOpenErr(t, "an only word that is 0", laid(t, p), api.ErrForm)
}

func TestOpenOfEachStart(t *testing.T) {
	for start := range 5 {
		p := sound()
		p.root.Start = start
		d := laid(t, p)
		if start == 2 {
			checkOpenErr(t, "a Start without a block", d, api.ErrForm)
		} else if s := opened(t, d); s.Start() != start {
			t.Errorf("Start() = %d; want %d", s.Start(), start)
		}
	}
}

// Each bit of the map, those behind the last block, too.
func TestOpenOfAMapThatTellsOtherwise(t *testing.T) {
	for n := range 24 {
		p := sound()
		p.set[n/8] ^= 128 >> (n % 8)
		checkOpenErr(t, fmt.Sprintf("a map with the bit %d turned", n), laid(t, p), api.ErrForm)
	}
}

func TestOpenOfNoMap(t *testing.T) {
	p := sound()
	p.root.Maps = nil
	p.set = setOf(20, 0, 1, 3, 4, 7, 9)
	checkOpenErr(t, "a root without its map", laid(t, p), api.ErrForm)
	p.words[0] = 7
	checkOpenErr(t, "a root without its map, and a word twice", laid(t, p), api.ErrForm)
	p = plan{blocks: 2, root: root.Root{Blocks: 2}}
	checkOpenErr(t, "a root of 2 blocks", laid(t, p), api.ErrForm)
}

func TestOpenOfABlockThatStandsTwiceInTheRoot(t *testing.T) {
	for _, c := range []struct{ tables, maps []int }{
		{[]int{4}, []int{4}}, {[]int{6}, []int{6}}, {[]int{4, 4}, []int{6}}, {[]int{4}, []int{6, 6}},
	} {
		p := sound()
		d := laid(t, p)
		p.root.Tables, p.root.Maps = c.tables, c.maps
		b, _ := root.Put(p.root)
		put(t, d, 1, b)
		checkOpenErr(t, fmt.Sprint("tables ", c.tables, ", maps ", c.maps), d, api.ErrForm)
	}
}

// A disk of 3 blocks is none that Format makes, but a root may tell of it.
func TestOpenOfTheSmallestDisk(t *testing.T) {
	p := plan{blocks: 3, root: root.Root{Blocks: 3, Maps: []int{2}}, set: setOf(3, 0, 1, 2)}
	s := opened(t, laid(t, p))
	checkLooks(t, s, "start 0 dirty false ids [] epoch 0 used 3 bad false")
	checkAllocErr(t, s, page.Bucket, 0, api.ErrFull)
}

// long is a plan of so many pages, upon the blocks from 50 on, in reverse.
func long(count, blocks int) plan {
	p := plan{blocks: blocks, root: root.Root{Epoch: 8, Blocks: blocks, Next: count}}
	for n := range (count + 122) / 123 {
		p.root.Tables = append(p.root.Tables, 10+n)
	}
	for n := range ((blocks+7)/8 + 245) / 246 {
		p.root.Maps = append(p.root.Maps, 40+n)
	}
	for i := range count {
		p.words = append(p.words, 50+count-1-i)
	}
	p.set = setOf(blocks, slices.Concat([]int{0, 1}, p.root.Tables, p.root.Maps, p.words)...)
	return p
}

func TestOpenOfTablesAndMapsOfSeveralPages(t *testing.T) {
	for _, c := range []struct{ count, blocks int }{
		{0, 60}, {1, 60}, {123, 1968}, {124, 1968}, {124, 1969}, {246, 3936}, {247, 3937}, {3000, 4096},
	} {
		p := long(c.count, c.blocks)
		d := laid(t, p)
		s := opened(t, d)
		if pages := len(p.root.Tables) + len(p.root.Maps); d.Reads() != 2+pages {
			t.Errorf("%d words: Reads = %d; want %d", c.count, d.Reads(), 2+pages)
		}
		if len(s.IDs()) != c.count || s.Used() != 2+len(p.root.Tables)+len(p.root.Maps)+c.count {
			t.Errorf("%d words: %s", c.count, looks(s))
		}
		for _, id := range s.IDs() {
			checkRead(t, s, id, page.Bucket, fmt.Sprint(id))
		}
	}
}

func TestOpenOfPagesInAnotherOrder(t *testing.T) {
	p := long(130, 2000)
	d := laid(t, p)
	slices.Reverse(p.root.Tables)
	b, _ := root.Put(p.root)
	put(t, d, 0, b)
	checkOpenErr(t, "tables in another order", d, api.ErrForm)
	slices.Reverse(p.root.Tables)
	slices.Reverse(p.root.Maps)
	b, _ = root.Put(p.root)
	put(t, d, 0, b)
	checkOpenErr(t, "maps in another order", d, api.ErrForm)
	slices.Reverse(p.root.Maps)
	b, _ = root.Put(p.root)
	put(t, d, 0, b)
	opened(t, d)
}

// A word of the second page that stands on the first one, too, or is a block of
// the table's or the map's second page.
func TestOpenOfWordsThatStandTwice(t *testing.T) {
	for _, n := range []int{0, 1, 10, 11, 40, 41, 50, 100, 179} {
		p := long(130, 2000)
		p.words[129] = n
		d := laid(t, long(130, 2000))
		put(t, d, 11, sealed(t, page.Table, 1, piece(wordsOf(p.words...), 1)))
		if n == 50 {
			opened(t, d)
			continue
		}
		checkOpenErr(t, fmt.Sprintf("a last word %d", n), d, api.ErrForm)
	}
}

// No other block is read: what stands in a page, or in a free block, is no
// matter of Open's.
func TestOpenReadsNoOtherBlock(t *testing.T) {
	d := laid(t, sound())
	junk := slices.Repeat([]byte{0xa5}, 256)
	for n := 2; n < 20; n++ {
		if n != 4 && n != 6 {
			put(t, d, n, junk)
		}
	}
	put(t, d, 0, junk)
	s := opened(t, d)
	checkLooks(t, s, "start 3 dirty false ids [1 3 4] epoch 5 used 7 bad false")
	for _, id := range s.IDs() {
		checkReadErr(t, s, id, api.ErrForm)
	}
	if s.Bad() {
		t.Error("bad of a page that is none")
	}
	write(t, s, 3, "again")
	checkRead(t, s, 3, page.Bucket, "again")
}

// Whatever bytes a disk has, Open ends.
func TestOpenOfAnyBytes(t *testing.T) {
	kept := laid(t, long(130, 2000))
	for i, n := range []int{0, 10, 11, 40, 41} {
		for place := range 256 {
			d := kept.Fork()
			b := raw(t, d, n)
			b[place] ^= byte(1 << (place % 8))
			put(t, d, n, b)
			checkOpenErr(t, fmt.Sprintf("a changed byte %d of the %dth block", place, i), d, api.ErrForm)
		}
	}
}
