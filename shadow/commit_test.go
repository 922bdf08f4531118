package shadow

import (
	"bytes"
	"fmt"
	"testing"

	"intarsia/api"
	"intarsia/page"
	"intarsia/root"
)

// P7.5

func callCommit(s *Shadow) api.Errno { return s.Commit() }

func TestCommitOfTheExample(t *testing.T) {
	d, s := formatted(t, 20)
	alloc(t, s, "x", 1)
	checkTrace(t, trace(t, d, s, callCommit), 4, 5, synced, 1, synced)
	ops, reads := d.Ops(), d.Reads()
	commit(t, s)
	if d.Ops() != ops+5 || d.Reads() != reads || len(d.Loose()) != 0 {
		t.Errorf("%d steps, %d reads, loose %v", d.Ops()-ops, d.Reads()-reads, d.Loose())
	}
	checkLooks(t, s, "start 0 dirty false ids [1] epoch 1 used 5 bad false")
	checkBucket(t, d, 3, 1, "x")
	checkPage(t, d, 4, page.Table, 0, wordsOf(3))
	checkPage(t, d, 5, page.Map, 0, setOf(20, 0, 1, 3, 4, 5))
	checkRoot(t, d, 1, root.Root{Epoch: 1, Blocks: 20, Next: 1, Tables: []int{4}, Maps: []int{5}})
	checkRoot(t, d, 0, root.Root{Blocks: 20, Maps: []int{2}})
	alloc(t, s, "y", 2)
	checkBucket(t, d, 2, 2, "y")
}

func TestCommitsOneBehindTheOther(t *testing.T) {
	d, s := formatted(t, 20)
	alloc(t, s, "x", 1)
	commit(t, s)
	// Free are 2 and those from 6 on.
	alloc(t, s, "y", 2)
	setStart(t, s, 1)
	checkTrace(t, trace(t, d, s, callCommit), 6, 7, synced, 0, synced)
	commit(t, s)
	checkRoot(t, d, 0, root.Root{Epoch: 2, Blocks: 20, Next: 2, Start: 1, Tables: []int{6}, Maps: []int{7}})
	checkRoot(t, d, 1, root.Root{Epoch: 1, Blocks: 20, Next: 1, Tables: []int{4}, Maps: []int{5}})
	checkPage(t, d, 6, page.Table, 0, wordsOf(3, 2))
	checkPage(t, d, 7, page.Map, 0, setOf(20, 0, 1, 2, 3, 6, 7))
	// Free are 4, 5 and those from 8 on.
	write(t, s, 1, "z")
	checkBucket(t, d, 4, 1, "z")
	checkTrace(t, trace(t, d, s, callCommit), 5, 8, synced, 1, synced)
	commit(t, s)
	checkRoot(t, d, 1, root.Root{Epoch: 3, Blocks: 20, Next: 2, Start: 1, Tables: []int{5}, Maps: []int{8}})
	checkPage(t, d, 5, page.Table, 0, wordsOf(4, 2))
	checkPage(t, d, 8, page.Map, 0, setOf(20, 0, 1, 2, 4, 5, 8))
	// Free are 3, 6, 7 and those from 9 on.
	free(t, s, 2)
	checkTrace(t, trace(t, d, s, callCommit), 3, 6, synced, 0, synced)
	commit(t, s)
	checkPage(t, d, 3, page.Table, 0, wordsOf(4))
	checkPage(t, d, 6, page.Map, 0, setOf(20, 0, 1, 3, 4, 6))
	checkBlocks(t, d)
}

func TestCommitOfNothing(t *testing.T) {
	d, s := formatted(t, 20)
	for range 3 {
		ops, blocks, want := d.Ops(), image(t, d), looks(s)
		commit(t, s)
		commit(t, s)
		setStart(t, s, s.Start())
		commit(t, s)
		alloc(t, s, "x", len(s.IDs())+1)
		abort(t, s)
		ops++
		commit(t, s)
		if d.Ops() != ops {
			t.Errorf("%d steps for nothing", d.Ops()-ops)
		}
		checkLooks(t, s, want)
		if got := image(t, d); !bytes.Equal(got[:2*256], blocks[:2*256]) {
			t.Error("the roots were changed for nothing")
		}
		alloc(t, s, "x", len(s.IDs())+1)
		setStart(t, s, len(s.IDs()))
		commit(t, s)
	}
}

func TestCommitWithTooFewFreeBlocks(t *testing.T) {
	// Of 5 blocks one is free behind the Alloc, where two are asked for.
	d, s := formatted(t, 5)
	alloc(t, s, "x", 1)
	for range 2 {
		want, ops, blocks := looks(s), d.Ops(), image(t, d)
		checkErr(t, "Commit", s.Commit(), api.ErrFull)
		checkLooks(t, s, want)
		if d.Ops() != ops || !bytes.Equal(blocks, image(t, d)) {
			t.Error("a Commit that tells ErrFull goes to the disk")
		}
	}
	checkRead(t, s, 1, page.Bucket, "x")
	write(t, s, 1, "y")
	abort(t, s)
	checkLooks(t, s, "start 0 dirty false ids [] epoch 0 used 3 bad false")
	checkLooks(t, opened(t, d), looks(s))
	commit(t, s)
	alloc(t, s, "again", 1)
	free(t, s, 1)
	// Without pages just the map's page is asked for.
	commit(t, s)
	checkRoot(t, d, 1, root.Root{Epoch: 1, Blocks: 5, Maps: []int{3}})
	checkLooks(t, s, "start 0 dirty false ids [] epoch 1 used 3 bad false")
}

func TestCommitWithJustEnoughFreeBlocks(t *testing.T) {
	d, s := formatted(t, 6)
	alloc(t, s, "x", 1)
	commit(t, s)
	checkRoot(t, d, 1, root.Root{Epoch: 1, Blocks: 6, Next: 1, Tables: []int{4}, Maps: []int{5}})
	// Just 2 is free.
	setStart(t, s, 1)
	checkErr(t, "Commit", s.Commit(), api.ErrFull)
	abort(t, s)
	write(t, s, 1, "y")
	checkErr(t, "Commit", s.Commit(), api.ErrFull)
	checkRead(t, s, 1, page.Bucket, "y")
	abort(t, s)
	checkRead(t, s, 1, page.Bucket, "x")
	free(t, s, 1)
	commit(t, s)
	checkRoot(t, d, 0, root.Root{Epoch: 2, Blocks: 6, Maps: []int{2}})
	checkLooks(t, opened(t, d), "start 0 dirty false ids [] epoch 2 used 3 bad false")
}

// Blocks behind the disk's end are not free, though the map's last byte has
// room for them.
func TestCommitAtTheEndOfTheDisk(t *testing.T) {
	for blocks := 8; blocks <= 17; blocks++ {
		d, s := formatted(t, blocks)
		allocs(t, s, 1, blocks-4)
		checkErr(t, "Commit", s.Commit(), api.ErrFull)
		free(t, s, blocks-4)
		commit(t, s)
		if used := checkBlocks(t, d); used != blocks-1 || s.Used() != used {
			t.Errorf("of %d blocks %d are used, and Used() = %d", blocks, used, s.Used())
		}
	}
}

func TestCommitOfTheLastEpoch(t *testing.T) {
	p := sound()
	p.root.Epoch = api.MaxTag - 1
	d := laid(t, p)
	s := opened(t, d)
	free(t, s, 4)
	commit(t, s)
	checkLooks(t, s, fmt.Sprint("start 3 dirty false ids [1 3] epoch ", api.MaxTag, " used 6 bad false"))
	checkLooks(t, opened(t, d), looks(s))
	ops := d.Ops()
	commit(t, s)
	alloc(t, s, "two", 2)
	want := looks(s)
	checkErr(t, "Commit", s.Commit(), api.ErrRange)
	checkErr(t, "Commit", s.Commit(), api.ErrRange)
	checkLooks(t, s, want)
	if d.Ops() != ops+1 {
		t.Errorf("%d steps of an Alloc and Commits that tell ErrRange", d.Ops()-ops)
	}
	for s.Used() < 20 {
		if _, err := s.Alloc(page.Bucket, nil); err != api.OK {
			t.Fatalf("Alloc: error %d", int(err))
		}
	}
	checkErr(t, "Commit with too few blocks", s.Commit(), api.ErrFull)
	abort(t, s)
	checkLooks(t, s, fmt.Sprint("start 3 dirty false ids [1 3] epoch ", api.MaxTag, " used 6 bad false"))
}

func TestCommitOfTablesOfSeveralPages(t *testing.T) {
	for _, c := range []struct{ count, tables int }{
		{0, 0}, {1, 1}, {122, 1}, {123, 1}, {124, 2}, {246, 2}, {247, 3},
	} {
		d, s := formatted(t, 400)
		alloc(t, s, "1", 1)
		if c.count == 0 {
			free(t, s, 1)
		}
		allocs(t, s, 2, max(c.count-1, 0))
		commit(t, s)
		checkUsed(t, s, 2+c.count+c.tables+1)
		r := root.Root{Epoch: 1, Blocks: 400, Next: c.count}
		var words, used []int
		for i := range c.count {
			words = append(words, 3+i)
		}
		for i := range c.tables {
			r.Tables = append(r.Tables, 3+c.count+i)
			checkPage(t, d, r.Tables[i], page.Table, i, piece(wordsOf(words...), i))
		}
		r.Maps = []int{3 + c.count + c.tables}
		checkRoot(t, d, 1, r)
		used = append(append(append([]int{0, 1}, words...), r.Tables...), r.Maps...)
		checkPage(t, d, r.Maps[0], page.Map, 0, setOf(400, used...))
		o := opened(t, d)
		checkLooks(t, o, looks(s))
		if c.count > 0 {
			checkRead(t, o, c.count, page.Bucket, fmt.Sprint(c.count))
		}
	}
}

// The table ends with the highest id that has a block.
func TestCommitOfATableThatBecomesShorter(t *testing.T) {
	d, s := formatted(t, 400)
	allocs(t, s, 1, 125)
	commit(t, s)
	checkUsed(t, s, 2+125+2+1)
	free(t, s, 125)
	commit(t, s)
	checkUsed(t, s, 2+124+2+1)
	free(t, s, 122)
	free(t, s, 123)
	commit(t, s)
	checkUsed(t, s, 2+122+2+1)
	checkBlocks(t, d)
	free(t, s, 124)
	commit(t, s)
	checkUsed(t, s, 2+121+1+1)
	if next := rootOf(t, d).Next; next != 121 {
		t.Errorf("Next = %d; want 121", next)
	}
	checkBlocks(t, d)
	checkLooks(t, opened(t, d), looks(s))
	for id := 1; id <= 121; id++ {
		free(t, s, id)
	}
	commit(t, s)
	checkUsed(t, s, 3)
	checkBlocks(t, d)
}

func TestCommitOfMapsOfSeveralPages(t *testing.T) {
	for _, c := range []struct{ blocks, maps int }{{1968, 1}, {1969, 2}, {3936, 2}, {3937, 3}, {4096, 3}} {
		d, s := formatted(t, c.blocks)
		alloc(t, s, "x", 1)
		want := []int{3 + c.maps}
		for i := range c.maps {
			want = append(want, 4+c.maps+i)
		}
		checkTrace(t, trace(t, d, s, callCommit), append(want, synced, 1, synced)...)
		commit(t, s)
		checkUsed(t, s, 2+1+1+c.maps)
		checkRoot(t, d, 1, root.Root{Epoch: 1, Blocks: c.blocks, Next: 1, Tables: want[:1], Maps: want[1:]})
		checkBlocks(t, d)
		// The pages of the map that counted are free.
		alloc(t, s, "y", 2)
		checkBucket(t, d, 2, 2, "y")
		commit(t, s)
		checkBlocks(t, d)
		checkLooks(t, opened(t, d), looks(s))
	}
}

// Blocks of the map's second page come to use, and are free again.
func TestCommitOfBlocksOfTheSecondPageOfTheMap(t *testing.T) {
	d, s := formatted(t, 1990)
	allocs(t, s, 1, 1966)
	commit(t, s)
	checkPage(t, d, 1969, page.Bucket, 1966, []byte("1966"))
	if used := checkBlocks(t, d); used != 2+1966+16+2 || s.Used() != used {
		t.Errorf("%d are used, and Used() = %d", used, s.Used())
	}
	// Free are 2, 3, 1988 and 1989.
	for id := 3; id <= 1966; id++ {
		free(t, s, id)
	}
	commit(t, s)
	checkRoot(t, d, 0, root.Root{Epoch: 2, Blocks: 1990, Next: 2, Tables: []int{2}, Maps: []int{3, 1988}})
	checkBlocks(t, d)
	checkLooks(t, opened(t, d), "start 0 dirty false ids [1 2] epoch 2 used 7 bad false")
}

func TestAbort(t *testing.T) {
	d, s := formatted(t, 20)
	checks := func(what, want string) {
		t.Helper()
		ops, reads := d.Ops(), d.Reads()
		abort(t, s)
		if d.Ops() != ops || d.Reads() != reads {
			t.Errorf("%s: Abort goes to the disk", what)
		}
		checkLooks(t, s, want)
	}
	const empty = "start 0 dirty false ids [] epoch 0 used 3 bad false"
	checks("nothing", empty)
	alloc(t, s, "x", 1)
	checks("Alloc", empty)
	checkReadErr(t, s, 1, api.ErrNone)
	alloc(t, s, "one", 1)
	checkBucket(t, d, 3, 1, "one")
	alloc(t, s, "two", 2)
	setStart(t, s, 2)
	commit(t, s)
	const counts = "start 2 dirty false ids [1 2] epoch 1 used 6 bad false"
	changes := map[string]func(){
		"nothing":          func() {},
		"Alloc":            func() { alloc(t, s, "three", 3) },
		"Write":            func() { write(t, s, 1, "eins") },
		"Write of Start":   func() { write(t, s, 2, "zwei") },
		"Write and Write":  func() { write(t, s, 1, "eins"); write(t, s, 1, "un") },
		"Free":             func() { free(t, s, 1) },
		"Free and Alloc":   func() { free(t, s, 1); alloc(t, s, "un", 1) },
		"Alloc and Free":   func() { alloc(t, s, "three", 3); free(t, s, 3) },
		"Write and Free":   func() { write(t, s, 1, "un"); free(t, s, 1) },
		"SetStart":         func() { setStart(t, s, 1) },
		"SetStart of 0":    func() { setStart(t, s, 0) },
		"Free of all":      func() { setStart(t, s, 0); free(t, s, 1); free(t, s, 2) },
		"a fresh Start":    func() { alloc(t, s, "three", 3); setStart(t, s, 3) },
		"Free of the last": func() { setStart(t, s, 1); free(t, s, 2) },
		"a full disk":      func() { allocs(t, s, 3, 14); checkErr(t, "Commit", s.Commit(), api.ErrFull) },
	}
	for what, change := range changes {
		change()
		checks(what, counts)
		checkRead(t, s, 1, page.Bucket, "one")
		checkRead(t, s, 2, page.Bucket, "two")
		checkReadErr(t, s, 3, api.ErrNone)
		checkBlocks(t, d)
		// All that was fresh is free.
		alloc(t, s, "three", 3)
		checkBucket(t, d, 2, 3, "three")
		checks("Alloc", counts)
	}
	checkLooks(t, opened(t, d), counts)
}

// Behind Open, too, all comes back to what was found.
func TestAbortBehindOpen(t *testing.T) {
	s := opened(t, laid(t, sound()))
	const counts = "start 3 dirty false ids [1 3 4] epoch 5 used 7 bad false"
	alloc(t, s, "x", 2)
	write(t, s, 4, "vier")
	setStart(t, s, 1)
	free(t, s, 3)
	abort(t, s)
	checkLooks(t, s, counts)
	for _, id := range []int{1, 3, 4} {
		checkRead(t, s, id, page.Bucket, fmt.Sprint(id))
	}
}

// The same calls lay the same blocks.
func TestTheSameCallsTwice(t *testing.T) {
	var images [][]byte
	for range 2 {
		d, s := formatted(t, 40)
		allocs(t, s, 1, 9)
		commit(t, s)
		free(t, s, 3)
		write(t, s, 5, "five")
		commit(t, s)
		write(t, s, 1, "one")
		images = append(images, image(t, d))
	}
	if !bytes.Equal(images[0], images[1]) {
		t.Error("other blocks")
	}
}
