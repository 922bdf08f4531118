package shadow

import (
	"bytes"
	"fmt"
	"math/rand"
	"slices"
	"testing"

	"intarsia/api"
	"intarsia/disk"
	"intarsia/page"
)

// P7.7

// fates is what may become of so many loose blocks: all ways of losing and
// keeping them, and of tearing them within marks, epochs, bodies and sums.
func fates(count int) [][]byte {
	kinds := [][]byte{{0}, {1}}
	for _, n := range []byte{0, 5, 9, 10, 22, 128, 247, 250, 252, 255} {
		kinds = append(kinds, []byte{2, n})
	}
	all := [][]byte{nil}
	for range count {
		var more [][]byte
		for _, ahead := range all {
			for _, one := range kinds {
				more = append(more, slices.Concat(ahead, one))
			}
		}
		all = more
	}
	return all
}

// someFates is all fates of one or two loose blocks, and some of more: all lost
// but one, all kept but one, all torn, and such as chance tells.
func someFates(count int) [][]byte {
	if count <= 2 {
		return fates(count)
	}
	some := [][]byte{nil, bytes.Repeat([]byte{1}, count), bytes.Repeat([]byte{2, 128}, count)}
	for i := range count {
		kept, lost := bytes.Repeat([]byte{1}, count), make([]byte, count)
		kept[i], lost[i] = 0, 1
		some = append(some, kept, lost)
	}
	chance := rand.New(rand.NewSource(int64(count)))
	for range 20 {
		fate := make([]byte, 2*count)
		chance.Read(fate)
		some = append(some, fate)
	}
	return some
}

// act is a call of a script.
type act struct {
	what string
	do   func(s *Shadow) api.Errno
}

func allocAct(body string) act {
	return act{"Alloc " + body, func(s *Shadow) api.Errno {
		_, err := s.Alloc(page.Bucket, []byte(body))
		return err
	}}
}

func writeAct(id int, body string) act {
	do := func(s *Shadow) api.Errno { return s.Write(id, page.Head, []byte(body)) }
	return act{fmt.Sprint("Write ", id, " ", body), do}
}

func freeAct(id int) act {
	return act{fmt.Sprint("Free ", id), func(s *Shadow) api.Errno { return s.Free(id) }}
}

func startAct(id int) act {
	return act{fmt.Sprint("SetStart ", id), func(s *Shadow) api.Errno { return s.SetStart(id) }}
}

func commitAct() act { return act{"Commit", callCommit} }

func abortAct() act { return act{"Abort", func(s *Shadow) api.Errno { return s.Abort() }} }

// script has calls of each kind. Upon few blocks each of these is taken, given
// up and taken again.
func script() []act {
	return []act{
		allocAct("a"), allocAct("b"), startAct(1), commitAct(),
		writeAct(1, "A"), allocAct("c"), commitAct(),
		freeAct(2), writeAct(3, "C"), writeAct(3, "CC"), commitAct(),
		allocAct("d"), writeAct(1, "AA"), abortAct(),
		startAct(3), freeAct(1), commitAct(),
		allocAct("e"), freeAct(1), commitAct(),
		startAct(0), freeAct(3), commitAct(),
		allocAct("f"), commitAct(),
	}
}

// countsBehind tells what counts ahead of a script, and behind each of its
// calls, if nothing fails. The disk and the shadow are left as they are.
func countsBehind(t *testing.T, d *disk.Disk, s *Shadow, acts []act) []string {
	t.Helper()
	own := d.Fork()
	f := s.Fork(own)
	counts := []string{countingOf(t, opened(t, own)).text()}
	for _, a := range acts {
		checkErr(t, a.what, a.do(f), api.OK)
		counts = append(counts, countingOf(t, opened(t, own)).text())
	}
	return counts
}

// failing goes through a script until the step of the disk that is to fail, and
// tells the place of the call that met it, or -1.
func failing(t *testing.T, d *disk.Disk, s *Shadow, acts []act, after int, done bool) int {
	t.Helper()
	d.Fail(after, done)
	for i, a := range acts {
		if err := a.do(s); err != api.OK {
			checkErr(t, a.what, err, api.ErrDown)
			if !s.Bad() {
				t.Errorf("%s: not bad", a.what)
			}
			return i
		}
	}
	return -1
}

// checkComesBack lets the power come again, and tells the shadow that is found:
// it has what counted ahead, or what was to count.
func checkComesBack(t *testing.T, what string, d *disk.Disk, fate []byte, ahead, behind string) *Shadow {
	t.Helper()
	d.Crash(fate)
	s, err := Open(d)
	if err != api.OK {
		t.Fatalf("%s, fate %v: Open tells error %d", what, fate, int(err))
	}
	if got := countingOf(t, s).text(); got != ahead && got != behind {
		t.Fatalf("%s, fate %v: %s; want %s, or %s", what, fate, got, ahead, behind)
	}
	if used := checkBlocks(t, d); s.Used() != used {
		t.Errorf("%s, fate %v: Used() = %d; want %d", what, fate, s.Used(), used)
	}
	return s
}

func TestWhereverThePowerFails(t *testing.T) {
	for _, blocks := range []int{12, 20, 1969} {
		for _, done := range []bool{false, true} {
			for after := 0; ; after++ {
				d, s := formatted(t, blocks)
				counts := countsBehind(t, d, s, script())
				i := failing(t, d, s, script(), after, done)
				if i < 0 {
					break
				}
				what := fmt.Sprintf("%d blocks, %s, the step %d (%v)", blocks, script()[i].what, after, done)
				for _, fate := range someFates(len(d.Loose())) {
					checkComesBack(t, what, d.Fork(), fate, counts[i], counts[i+1])
				}
				if blocks > 20 && after > 12 {
					break
				}
			}
		}
	}
}

// A second failure behind an opening, at each step of what is done then.
func TestWhereverThePowerFailsAgain(t *testing.T) {
	further := []act{allocAct("y"), commitAct(), allocAct("z"), writeAct(1, "Y"), commitAct()}
	for after := 0; ; after++ {
		d, s := formatted(t, 12)
		counts := countsBehind(t, d, s, script())
		i := failing(t, d, s, script(), after, after%2 == 0)
		if i < 0 {
			break
		}
		for _, fate := range [][]byte{nil, {1, 1, 1, 1, 1, 1}, {2, 100, 1, 0, 2, 200, 1}} {
			own := d.Fork()
			found := checkComesBack(t, "first", own, fate, counts[i], counts[i+1])
			checkFailsAgain(t, own, found, further)
		}
	}
}

func checkFailsAgain(t *testing.T, d *disk.Disk, s *Shadow, acts []act) {
	t.Helper()
	counts := countsBehind(t, d, s, acts)
	for _, done := range []bool{false, true} {
		for after := 0; ; after++ {
			own := d.Fork()
			i := failing(t, own, s.Fork(own), acts, after, done)
			if i < 0 {
				break
			}
			for _, fate := range [][]byte{nil, {1, 1, 1, 1, 1, 1}, {0, 1, 2, 77, 1, 0}, {2, 250, 2, 250, 2, 250}} {
				checkComesBack(t, "again, "+acts[i].what, own.Fork(), fate, counts[i], counts[i+1])
			}
		}
	}
}

// The new root counts just if it was written whole: where the steps ahead of it
// fail nothing counts, and where just it is loose, what becomes of it decides.
func TestCommitThatFails(t *testing.T) {
	for epoch := range 4 {
		d, s := formatted(t, 20)
		for range epoch {
			alloc(t, s, "ahead", s.Epoch()+1)
			commit(t, s)
		}
		alloc(t, s, "new", epoch+1)
		checkErr(t, "Sync", d.Sync(), api.OK)
		counts := countsBehind(t, d, s, []act{commitAct()})
		for step := range 5 {
			for _, done := range []bool{false, true} {
				own := d.Fork()
				failing(t, own, s.Fork(own), []act{commitAct()}, step, done)
				what := fmt.Sprintf("epoch %d, step %d (%v)", epoch+1, step, done)
				written := step == 3 && done || step == 4 && !done
				for _, fate := range allFates(len(own.Loose())) {
					want := counts[0]
					if step == 4 && done || written && fate[0] == 1 {
						want = counts[1]
					}
					checkComesBack(t, what, own.Fork(), fate, want, want)
				}
			}
		}
	}
}

// allFates is each place at which one loose block may be torn, too.
func allFates(count int) [][]byte {
	all := fates(count)
	for n := range 256 {
		if count == 1 {
			all = append(all, []byte{2, byte(n)})
		}
	}
	return all
}

// What was not committed is gone, and its blocks are free again.
func TestAFailureBetweenCommits(t *testing.T) {
	for _, fate := range fates(2) {
		d, s := formatted(t, 20)
		alloc(t, s, "one", 1)
		commit(t, s)
		write(t, s, 1, "eins")
		alloc(t, s, "two", 2)
		d.Crash(fate)
		o := opened(t, d)
		checkLooks(t, o, "start 0 dirty false ids [1] epoch 1 used 5 bad false")
		checkRead(t, o, 1, page.Bucket, "one")
		alloc(t, o, "zwei", 2)
		checkBucket(t, d, 2, 2, "zwei")
		commit(t, o)
		checkBlocks(t, d)
	}
}

// No block that counts is written until another root counts.
func TestNoBlockThatCountsIsWritten(t *testing.T) {
	d, s := formatted(t, 12)
	for _, a := range script() {
		epoch, kept := s.Epoch(), d.Fork()
		checkErr(t, a.what, a.do(s), api.OK)
		if s.Epoch() != epoch {
			continue
		}
		// The root of the last epoch, and what it needs.
		r := rootOf(t, kept)
		used := slices.Concat([]int{epoch % 2}, r.Tables, r.Maps)
		found := opened(t, kept)
		for _, id := range found.IDs() {
			used = append(used, found.block(id))
		}
		for _, n := range used {
			if !bytes.Equal(raw(t, kept, n), raw(t, d, n)) {
				t.Errorf("%s: block %d counts, and was written", a.what, n)
			}
		}
	}
}
